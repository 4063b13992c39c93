/-
  Texts: V11, V12, V13, V14, V6, V4, P1, P2.
-/
import Derived.Test.YtbfcccoeekonlaaM1
import Derived.Test.YtbfcccoeekonlaaM2
import Derived.Test.YtbfcccoeekonlaaM3
import Derived.Test.YtbfcccoeekonlaaM4
import Derived.Test.YtbfcccoeekonlaaM5
import Derived.Test.YtbfcccoeekonlaaM6
import Derived.Test.YtbfcccoeekonlaaM7
import Derived.Test.YtbfcccoeekonlaaM8
section
/-
  Package field: inverses: reckoned by the kernel. (Laid by program.)
-/
namespace Go.Proofs.Ytbfcccoeekonlaa
open Go.Sx
set_option maxRecDepth 100000
def wrN (z : Int) : Nat := (z % (M256 : Int)).toNat
def signedC (z : Int) : List Prop := [i64ok z]
def signedG (z : Int) : SV := .one (sU (wrN z))
def highN (a : Nat) (n : Int) : Nat := a % M256 * 2 ^ n.toNat / 2 ^ 194
def highC (a : Nat) (n : Int) : List Prop := [0 ≤ n ∧ n ≤ 255, a % M256 * 2 ^ n.toNat < M256]
def highG (a : Nat) (n : Int) : SV := .one (sI .i64 ((highN a n : Nat) : Int))
def foN (p : Nat) : Int := ((256 - bitsN (p % M256) : Nat) : Int)
def foR (p q : Nat) : Int × Int × Int × Int := fs (highN q (foN p) + 1) (highN p (foN p) : Nat) (highN q (foN p) : Nat) 1 0 0 1
def foC : List (List At) → List Prop
  | [[.u p, .u q]] => [q % M256 < p % M256]
  | _ => [False]
def foG : List (List At) → SV
  | [[.u p, .u q]] => .tup [.agg [.u (wrN (foR p q).1), .u (wrN (foR p q).2.1), .u (wrN (foR p q).2.2.1), .u (wrN (foR p q).2.2.2)], sB (!((foR p q).2.1 == 0))]
  | _ => .tup []
def turnC : List (List At) → List Prop
  | [[.u _, .u _, .u _, .u _], [.u _, .u _]] => []
  | _ => [False]
def turnG : List (List At) → SV
  | [[.u a, .u b, .u c, .u d], [.u p, .u q]] => .one (.agg [.u (a * p + b * q), .u (c * p + d * q)])
  | _ => .tup []
def aboveG (a m : Nat) : SV := .one (sU (if 2 ^ 255 ≤ a % M256 then a + m else a))
def invN (a m : Nat) : Nat := if (euE m a 0 1).1 = 1 then ((euE m a 0 1).2 % (m : Int)).toNat else 0
def invE (a m : Nat) : Int := if (euE m a 0 1).1 = 1 then 0 else 5
def inverseC (a m : Nat) : List Prop := [a % M256 < m % M256]
def inverseG (a m : Nat) : SV := .tup [sU (invN (a % M256) (m % M256)), sI .i64 (invE (a % M256) (m % M256))]
def finvE (a m : Nat) : Int := if m % M256 = 0 then 7 else if a % M256 < m % M256 then invE (a % M256) (m % M256) else 6
def finvG (a m : Nat) : SV := .tup [sU (if finvE a m = 0 then invN (a % M256) (m % M256) else 0), sI .i64 (finvE a m)]
def zeroT : List SK := zeroU ++ zeroU ++ zeroU ++ zeroU
def invFo (p q : Nat) : Inv where
  X := Int × Int × Int × Int × Int × Int × Nat
  tm j := slotsAt 80 [(2, .one (.sc (.ptr 1 0))), (5, .one (sI .i64 j.1)), (6, .one (sI .i64 j.2.1)), (7, .one (sI .i64 j.2.2.1)), (8, .one (sI .i64 j.2.2.2.1)), (9, .one (sI .i64 j.2.2.2.2.1)), (10, .one (sI .i64 j.2.2.2.2.2.1))]
  ob _ := [.cells 94 [.u p, .u q] 0, .cells 96 zeroT 0]
  holds j := fs j.2.2.2.2.2.2 j.1 j.2.1 j.2.2.1 j.2.2.2.1 j.2.2.2.2.1 j.2.2.2.2.2.1 = foR p q ∧ (j.2.1 + j.2.2.2.2.1).toNat < j.2.2.2.2.2.2 ∧
    ∃ N B e0 e1 : Int, FsC (p % M256) (q % M256) N B (highN p (foN p) : Nat) (highN q (foN p) : Nat) e0 e1 (2 ^ 62) ∧ FsK (p % M256) (q % M256) N B (highN p (foN p) : Nat) (highN q (foN p) : Nat) e0 e1 (2 ^ 62) j.1 j.2.1 j.2.2.1 j.2.2.2.1 j.2.2.2.2.1 j.2.2.2.2.2.1
  less j := j.2.2.2.2.2.2
def cxFo : Cx := [(68, specU noughtsG), (78, specUJ highC highG), (79, specI signedC signedG)]
def cxTurn : Cx := [(70, specUU mulG), (27, specUU addG)]
def cxAbove : Cx := [(27, specUU addG)]
def invInv (a m : Nat) : Inv where
  X := Nat × Nat × Int × Int
  tm _ := slotsAt 44 [(2, .one (.sc (.ptr 0 0))), (3, .one (.sc (.ptr 1 0))), (4, .one (.sc (.ptr 2 0))), (6, .one (.sc (.ptr 3 0))), (7, .one (.sc (.ptr 4 0)))]
  ob j := [.cells 26 [.u a] 0, .cells 26 [.u m] 0, .cells 26 zeroU 0, .cells 94 [.u j.1, .u j.2.1] 0, .cells 94 [.u (wrN j.2.2.1), .u (wrN j.2.2.2)] 0]
  holds j := EuK (m % M256) (a % M256) j.1 j.2.1 j.2.2.1 j.2.2.2 ∧ euE j.1 j.2.1 j.2.2.1 j.2.2.2 = euE (m % M256) (a % M256) 0 1 ∧ j.1 ≤ m % M256
  less j := j.2.1
def cxInverse : Cx := [(62, specA [.str [.u, .u]] foC foG), (64, specA [.str [.u, .u, .u, .u], .str [.u, .u]] turnC turnG), (65, specUU aboveG), (37, specUU dmG), (67, specUU subG)]
def cxInv : Cx := [(39, specUU cmpG), (48, specUUC inverseC inverseG)]
-- VC vc_signed HASH 112e6f980bb1209c
theorem vc_signed (z : Int) :
    Owes Try.prog Cx.none [] 100 Try.f79 [sI .i64 z] (signedG z) =
    (let x1 : Int := Go.IntKind.u64.wrap (z.fdiv (9223372036854775808 : Int)); ((0 : Int) ≤ Go.IntKind.u64.wrap z ∧ Go.IntKind.u64.wrap z < (18446744073709551616 : Int)) ∧ ((0 : Int) ≤ x1 ∧ x1 < (18446744073709551616 : Int)) ∧ ((0 : Int) ≤ x1 ∧ x1 < (18446744073709551616 : Int)) ∧ ((0 : Int) ≤ x1 ∧ x1 < (18446744073709551616 : Int)) ∧ Go.Sx.join (Go.IntKind.u64.wrap z) x1 x1 x1 % Go.Sx.M256 = Go.Proofs.Ytbfcccoeekonlaa.wrN z % Go.Sx.M256 ∧ True) := by kernel_rfl
-- END VC
-- VC vc_highest HASH 9c4b98e673ac0f89
theorem vc_highest (a : Nat) (n : Int) :
    Owes Try.prog Cx.none [] 100 Try.f78 [sU a, sI .i64 n] (highG a n) =
    (let x1 : Int := Go.IntKind.i64.wrap ((3 : Int) - Go.IntKind.i64.wrap (n.tdiv (64 : Int))); let x2 : Int := Go.IntKind.i64.wrap (x1 - (1 : Int)); let x3 : Int := Go.IntKind.i64.wrap ((64 : Int) - n.tmod (64 : Int)); let x4 : Int := Go.IntKind.u64.wrap (Go.Sx.limb a x1.toNat * (2 : Int) ^ Min.min (n.tmod (64 : Int)).toNat (64 : Nat)); ((0 : Int) ≤ x1 ∧ x1 < (4 : Int)) ∧ ((0 : Int) ≤ x1 ∧ x1 < (4 : Int)) ∧ (0 : Int) ≤ n.tmod (64 : Int) ∧ (Decidable.decide (x1 > (0 : Int)) = Bool.true → ((0 : Int) ≤ x2 ∧ x2 < (4 : Int)) ∧ ((0 : Int) ≤ x2 ∧ x2 < (4 : Int)) ∧ (0 : Int) ≤ x3 ∧ Go.IntKind.i64.wrap ((Go.IntKind.u64.wrap (↑(BitVec.ofInt (64 : Nat) x4 ||| BitVec.ofInt (64 : Nat) ((Go.Sx.limb a x2.toNat).fdiv ((2 : Int) ^ Min.min x3.toNat (64 : Nat)))).toNat : Int)).fdiv (4 : Int)) = (↑(Go.Proofs.Ytbfcccoeekonlaa.highN a n) : Int)) ∧ (Decidable.decide (x1 > (0 : Int)) = Bool.false → Go.IntKind.i64.wrap (x4.fdiv (4 : Int)) = (↑(Go.Proofs.Ytbfcccoeekonlaa.highN a n) : Int))) := by kernel_rfl
-- END VC
-- VC vc_foresee HASH 7882f32bd018081d
theorem vc_foresee (p q : Nat) :
    Owes Try.prog cxFo [(4, .inv (invFo p q))] 100 Try.f62 [.agg [.u p, .u q]] (foG [[.u p, .u q]]) =
    (let x1 : Nat := p % Go.Sx.M256; let x2 : Int := (↑((256 : Nat) - Go.Proofs.Ytbfcccoeekonlaa.bitsN x1) : Int); let x3 : Nat := (2 : Nat) ^ x2.toNat; let x4 : Nat := q % Go.Sx.M256; let x5 : Nat := Go.Proofs.Ytbfcccoeekonlaa.wrN (Go.Proofs.Ytbfcccoeekonlaa.foR p q).fst % Go.Sx.M256; let x6 : Int := (Go.Proofs.Ytbfcccoeekonlaa.foR p q).snd.fst; let x7 : Nat := Go.Proofs.Ytbfcccoeekonlaa.wrN x6 % Go.Sx.M256; let x8 : Nat := Go.Proofs.Ytbfcccoeekonlaa.wrN (Go.Proofs.Ytbfcccoeekonlaa.foR p q).snd.snd.fst % Go.Sx.M256; let x9 : Nat := Go.Proofs.Ytbfcccoeekonlaa.wrN (Go.Proofs.Ytbfcccoeekonlaa.foR p q).snd.snd.snd % Go.Sx.M256; let x10 : Bool := !x6 == (0 : Int); ((0 : Int) ≤ x2 ∧ x2 ≤ (255 : Int)) ∧ x1 * x3 < Go.Sx.M256 ∧ ((0 : Int) ≤ x2 ∧ x2 ≤ (255 : Int)) ∧ x4 * x3 < Go.Sx.M256 ∧ (∀ (y : Int × Int × Int × Int × Int × Int × Nat), Go.Sx.closedB (Go.Sx.slotsAt (80 : Nat) [((2 : Nat), Go.Sx.SV.one (Go.Sx.SA.sc (Go.Sx.SC.ptr (1 : Nat) (0 : Nat)))), ((5 : Nat), Go.Sx.SV.one (Go.Sx.sI Go.IntKind.i64 y.fst)), ((6 : Nat), Go.Sx.SV.one (Go.Sx.sI Go.IntKind.i64 y.snd.fst)), ((7 : Nat), Go.Sx.SV.one (Go.Sx.sI Go.IntKind.i64 y.snd.snd.fst)), ((8 : Nat), Go.Sx.SV.one (Go.Sx.sI Go.IntKind.i64 y.snd.snd.snd.fst)), ((9 : Nat), Go.Sx.SV.one (Go.Sx.sI Go.IntKind.i64 y.snd.snd.snd.snd.fst)), ((10 : Nat), Go.Sx.SV.one (Go.Sx.sI Go.IntKind.i64 y.snd.snd.snd.snd.snd.fst))]) [Go.Sx.SO.cells (94 : Go.TypeId) [Go.Sx.SK.u p, Go.Sx.SK.u q] (0 : Nat), Go.Sx.SO.cells (96 : Go.TypeId) Go.Proofs.Ytbfcccoeekonlaa.zeroT (0 : Nat)] = Bool.true) ∧ ∃ (y : Int × Int × Int × Int × Int × Int × Nat), (Go.Sx.fs y.snd.snd.snd.snd.snd.snd y.fst y.snd.fst y.snd.snd.fst y.snd.snd.snd.fst y.snd.snd.snd.snd.fst y.snd.snd.snd.snd.snd.fst = Go.Proofs.Ytbfcccoeekonlaa.foR p q ∧ (y.snd.fst + y.snd.snd.snd.snd.fst).toNat < y.snd.snd.snd.snd.snd.snd ∧ ∃ (N : Int), ∃ (B : Int), ∃ (e0 : Int), ∃ (e1 : Int), Go.Sx.FsC x1 x4 N B (↑(Go.Proofs.Ytbfcccoeekonlaa.highN p (Go.Proofs.Ytbfcccoeekonlaa.foN p)) : Int) (↑(Go.Proofs.Ytbfcccoeekonlaa.highN q (Go.Proofs.Ytbfcccoeekonlaa.foN p)) : Int) e0 e1 (4611686018427387904 : Int) ∧ Go.Sx.FsK x1 x4 N B (↑(Go.Proofs.Ytbfcccoeekonlaa.highN p (Go.Proofs.Ytbfcccoeekonlaa.foN p)) : Int) (↑(Go.Proofs.Ytbfcccoeekonlaa.highN q (Go.Proofs.Ytbfcccoeekonlaa.foN p)) : Int) e0 e1 (4611686018427387904 : Int) y.fst y.snd.fst y.snd.snd.fst y.snd.snd.snd.fst y.snd.snd.snd.snd.fst y.snd.snd.snd.snd.snd.fst) ∧ (↑(Go.Proofs.Ytbfcccoeekonlaa.highN p x2) : Int) = y.fst ∧ (↑(Go.Proofs.Ytbfcccoeekonlaa.highN q x2) : Int) = y.snd.fst ∧ (1 : Int) = y.snd.snd.fst ∧ (0 : Int) = y.snd.snd.snd.fst ∧ (0 : Int) = y.snd.snd.snd.snd.fst ∧ (1 : Int) = y.snd.snd.snd.snd.snd.fst ∧ x1 = x1 ∧ x4 = x4 ∧ (0 : Nat) = (0 : Nat) ∧ (0 : Nat) = (0 : Nat) ∧ ∀ (y : Int × Int × Int × Int × Int × Int × Nat), (Go.Sx.fs y.snd.snd.snd.snd.snd.snd y.fst y.snd.fst y.snd.snd.fst y.snd.snd.snd.fst y.snd.snd.snd.snd.fst y.snd.snd.snd.snd.snd.fst = Go.Proofs.Ytbfcccoeekonlaa.foR p q ∧ (y.snd.fst + y.snd.snd.snd.snd.fst).toNat < y.snd.snd.snd.snd.snd.snd ∧ ∃ (N : Int), ∃ (B : Int), ∃ (e0 : Int), ∃ (e1 : Int), Go.Sx.FsC x1 x4 N B (↑(Go.Proofs.Ytbfcccoeekonlaa.highN p (Go.Proofs.Ytbfcccoeekonlaa.foN p)) : Int) (↑(Go.Proofs.Ytbfcccoeekonlaa.highN q (Go.Proofs.Ytbfcccoeekonlaa.foN p)) : Int) e0 e1 (4611686018427387904 : Int) ∧ Go.Sx.FsK x1 x4 N B (↑(Go.Proofs.Ytbfcccoeekonlaa.highN p (Go.Proofs.Ytbfcccoeekonlaa.foN p)) : Int) (↑(Go.Proofs.Ytbfcccoeekonlaa.highN q (Go.Proofs.Ytbfcccoeekonlaa.foN p)) : Int) e0 e1 (4611686018427387904 : Int) y.fst y.snd.fst y.snd.snd.fst y.snd.snd.snd.fst y.snd.snd.snd.snd.fst y.snd.snd.snd.snd.snd.fst) → ((Go.IntKind.i64.wrap (y.snd.fst + y.snd.snd.snd.snd.fst) != (0 : Int)) = Bool.true → (Go.IntKind.i64.wrap (y.snd.fst + y.snd.snd.snd.snd.fst) != (0 : Int)) = Bool.true) ∧ ((Go.IntKind.i64.wrap (y.snd.fst + y.snd.snd.snd.snd.fst) != (0 : Int)) = Bool.true → (Go.IntKind.i64.wrap (y.snd.fst + y.snd.snd.snd.snd.fst) != (0 : Int)) = Bool.true) ∧ ((Go.IntKind.i64.wrap (y.snd.fst + y.snd.snd.snd.snd.fst) != (0 : Int)) = Bool.true → (Go.IntKind.i64.wrap (y.snd.fst + y.snd.snd.snd.snd.fst) != (0 : Int)) = Bool.true) ∧ ((Go.IntKind.i64.wrap (y.snd.fst + y.snd.snd.snd.snd.fst) != (0 : Int)) = Bool.true → (Go.IntKind.i64.wrap (y.snd.fst + y.snd.snd.snd.snd.fst) != (0 : Int)) = Bool.true) ∧ ((Go.IntKind.i64.wrap (y.snd.fst + y.snd.snd.snd.snd.fst) != (0 : Int) && Go.IntKind.i64.wrap (y.snd.fst + y.snd.snd.snd.snd.snd.fst) != (0 : Int)) = Bool.true → Go.IntKind.i64.wrap (y.snd.fst + y.snd.snd.snd.snd.fst) ≠ (0 : Int) ∧ Go.IntKind.i64.wrap (y.snd.fst + y.snd.snd.snd.snd.snd.fst) ≠ (0 : Int) ∧ ((Go.IntKind.i64.wrap ((Go.IntKind.i64.wrap (y.fst + y.snd.snd.fst)).tdiv (Go.IntKind.i64.wrap (y.snd.fst + y.snd.snd.snd.snd.fst))) != Go.IntKind.i64.wrap ((Go.IntKind.i64.wrap (y.fst + y.snd.snd.snd.fst)).tdiv (Go.IntKind.i64.wrap (y.snd.fst + y.snd.snd.snd.snd.snd.fst)))) = Bool.true → ((-9223372036854775808 : Int) ≤ y.snd.snd.fst ∧ y.snd.snd.fst ≤ (9223372036854775807 : Int)) ∧ ((-9223372036854775808 : Int) ≤ y.snd.snd.snd.fst ∧ y.snd.snd.snd.fst ≤ (9223372036854775807 : Int)) ∧ ((-9223372036854775808 : Int) ≤ y.snd.snd.snd.snd.fst ∧ y.snd.snd.snd.snd.fst ≤ (9223372036854775807 : Int)) ∧ ((-9223372036854775808 : Int) ≤ y.snd.snd.snd.snd.snd.fst ∧ y.snd.snd.snd.snd.snd.fst ≤ (9223372036854775807 : Int)) ∧ (Go.Proofs.Ytbfcccoeekonlaa.wrN y.snd.snd.fst % Go.Sx.M256 = x5 ∧ Go.Proofs.Ytbfcccoeekonlaa.wrN y.snd.snd.snd.fst % Go.Sx.M256 = x7 ∧ Go.Proofs.Ytbfcccoeekonlaa.wrN y.snd.snd.snd.snd.fst % Go.Sx.M256 = x8 ∧ Go.Proofs.Ytbfcccoeekonlaa.wrN y.snd.snd.snd.snd.snd.fst % Go.Sx.M256 = x9 ∧ True) ∧ (y.snd.snd.snd.fst != (0 : Int)) = x10) ∧ ((Go.IntKind.i64.wrap ((Go.IntKind.i64.wrap (y.fst + y.snd.snd.fst)).tdiv (Go.IntKind.i64.wrap (y.snd.fst + y.snd.snd.snd.snd.fst))) != Go.IntKind.i64.wrap ((Go.IntKind.i64.wrap (y.fst + y.snd.snd.snd.fst)).tdiv (Go.IntKind.i64.wrap (y.snd.fst + y.snd.snd.snd.snd.snd.fst)))) = Bool.false → ∃ (y' : Int × Int × Int × Int × Int × Int × Nat), (Go.Sx.fs y'.snd.snd.snd.snd.snd.snd y'.fst y'.snd.fst y'.snd.snd.fst y'.snd.snd.snd.fst y'.snd.snd.snd.snd.fst y'.snd.snd.snd.snd.snd.fst = Go.Proofs.Ytbfcccoeekonlaa.foR p q ∧ (y'.snd.fst + y'.snd.snd.snd.snd.fst).toNat < y'.snd.snd.snd.snd.snd.snd ∧ ∃ (N : Int), ∃ (B : Int), ∃ (e0 : Int), ∃ (e1 : Int), Go.Sx.FsC x1 x4 N B (↑(Go.Proofs.Ytbfcccoeekonlaa.highN p (Go.Proofs.Ytbfcccoeekonlaa.foN p)) : Int) (↑(Go.Proofs.Ytbfcccoeekonlaa.highN q (Go.Proofs.Ytbfcccoeekonlaa.foN p)) : Int) e0 e1 (4611686018427387904 : Int) ∧ Go.Sx.FsK x1 x4 N B (↑(Go.Proofs.Ytbfcccoeekonlaa.highN p (Go.Proofs.Ytbfcccoeekonlaa.foN p)) : Int) (↑(Go.Proofs.Ytbfcccoeekonlaa.highN q (Go.Proofs.Ytbfcccoeekonlaa.foN p)) : Int) e0 e1 (4611686018427387904 : Int) y'.fst y'.snd.fst y'.snd.snd.fst y'.snd.snd.snd.fst y'.snd.snd.snd.snd.fst y'.snd.snd.snd.snd.snd.fst) ∧ y.snd.fst = y'.fst ∧ Go.IntKind.i64.wrap (y.fst - Go.IntKind.i64.wrap (Go.IntKind.i64.wrap ((Go.IntKind.i64.wrap (y.fst + y.snd.snd.fst)).tdiv (Go.IntKind.i64.wrap (y.snd.fst + y.snd.snd.snd.snd.fst))) * y.snd.fst)) = y'.snd.fst ∧ y.snd.snd.snd.snd.fst = y'.snd.snd.fst ∧ y.snd.snd.snd.snd.snd.fst = y'.snd.snd.snd.fst ∧ Go.IntKind.i64.wrap (y.snd.snd.fst - Go.IntKind.i64.wrap (Go.IntKind.i64.wrap ((Go.IntKind.i64.wrap (y.fst + y.snd.snd.fst)).tdiv (Go.IntKind.i64.wrap (y.snd.fst + y.snd.snd.snd.snd.fst))) * y.snd.snd.snd.snd.fst)) = y'.snd.snd.snd.snd.fst ∧ Go.IntKind.i64.wrap (y.snd.snd.snd.fst - Go.IntKind.i64.wrap (Go.IntKind.i64.wrap ((Go.IntKind.i64.wrap (y.fst + y.snd.snd.fst)).tdiv (Go.IntKind.i64.wrap (y.snd.fst + y.snd.snd.snd.snd.fst))) * y.snd.snd.snd.snd.snd.fst)) = y'.snd.snd.snd.snd.snd.fst ∧ x1 = x1 ∧ x4 = x4 ∧ (0 : Nat) = (0 : Nat) ∧ (0 : Nat) = (0 : Nat) ∧ y'.snd.snd.snd.snd.snd.snd < y.snd.snd.snd.snd.snd.snd)) ∧ ((Go.IntKind.i64.wrap (y.snd.fst + y.snd.snd.snd.snd.fst) != (0 : Int) && Go.IntKind.i64.wrap (y.snd.fst + y.snd.snd.snd.snd.snd.fst) != (0 : Int)) = Bool.false → ((-9223372036854775808 : Int) ≤ y.snd.snd.fst ∧ y.snd.snd.fst ≤ (9223372036854775807 : Int)) ∧ ((-9223372036854775808 : Int) ≤ y.snd.snd.snd.fst ∧ y.snd.snd.snd.fst ≤ (9223372036854775807 : Int)) ∧ ((-9223372036854775808 : Int) ≤ y.snd.snd.snd.snd.fst ∧ y.snd.snd.snd.snd.fst ≤ (9223372036854775807 : Int)) ∧ ((-9223372036854775808 : Int) ≤ y.snd.snd.snd.snd.snd.fst ∧ y.snd.snd.snd.snd.snd.fst ≤ (9223372036854775807 : Int)) ∧ (Go.Proofs.Ytbfcccoeekonlaa.wrN y.snd.snd.fst % Go.Sx.M256 = x5 ∧ Go.Proofs.Ytbfcccoeekonlaa.wrN y.snd.snd.snd.fst % Go.Sx.M256 = x7 ∧ Go.Proofs.Ytbfcccoeekonlaa.wrN y.snd.snd.snd.snd.fst % Go.Sx.M256 = x8 ∧ Go.Proofs.Ytbfcccoeekonlaa.wrN y.snd.snd.snd.snd.snd.fst % Go.Sx.M256 = x9 ∧ True) ∧ (y.snd.snd.snd.fst != (0 : Int)) = x10)) := by kernel_rfl
-- END VC
-- VC vc_of HASH d3233c265dbc61d8
theorem vc_of (a b c d p q : Nat) :
    Owes Try.prog cxTurn [] 100 Try.f64 [.agg [.u a, .u b, .u c, .u d], .agg [.u p, .u q]] (turnG [[.u a, .u b, .u c, .u d], [.u p, .u q]]) =
    (let x1 : Nat := (a * p + b * q) % Go.Sx.M256; let x2 : Nat := (c * p + d * q) % Go.Sx.M256; x1 = x1 ∧ x2 = x2 ∧ True) := by kernel_rfl
-- END VC
-- VC vc_above HASH 1eb1242aee8dd8e7
theorem vc_above (a m : Nat) :
    Owes Try.prog cxAbove [] 100 Try.f65 [sU a, sU m] (aboveG a m) =
    (let x1 : Nat := a + m; let x2 : Nat := a % Go.Sx.M256; let x3 : Nat := (if (57896044618658097711785492504343953926634992332820282019728792003956564819968 : Nat) ≤ x2 then x1 else a) % Go.Sx.M256; (((Go.Sx.limb a (3 : Nat)).fdiv (9223372036854775808 : Int) == (1 : Int)) = Bool.true → x1 % Go.Sx.M256 = x3 ∧ True) ∧ (((Go.Sx.limb a (3 : Nat)).fdiv (9223372036854775808 : Int) == (1 : Int)) = Bool.false → x2 = x3 ∧ True)) := by kernel_rfl
-- END VC
-- VC vc_inverse HASH 825a42b1a85797b6
theorem vc_inverse (a m : Nat) :
    Owes Try.prog cxInverse [(2, .inv (invInv a m))] 100 Try.f48 [sU a, sU m] (inverseG a m) =
    (let x1 : Nat := m % Go.Sx.M256; let x2 : Nat := a % Go.Sx.M256; let x3 : Nat := Go.Proofs.Ytbfcccoeekonlaa.invN x2 x1 % Go.Sx.M256; let x4 : Int := Go.Proofs.Ytbfcccoeekonlaa.invE x2 x1; (∀ (y : Nat × Nat × Int × Int), Go.Sx.closedB (Go.Sx.slotsAt (44 : Nat) [((2 : Nat), Go.Sx.SV.one (Go.Sx.SA.sc (Go.Sx.SC.ptr (0 : Nat) (0 : Nat)))), ((3 : Nat), Go.Sx.SV.one (Go.Sx.SA.sc (Go.Sx.SC.ptr (1 : Nat) (0 : Nat)))), ((4 : Nat), Go.Sx.SV.one (Go.Sx.SA.sc (Go.Sx.SC.ptr (2 : Nat) (0 : Nat)))), ((6 : Nat), Go.Sx.SV.one (Go.Sx.SA.sc (Go.Sx.SC.ptr (3 : Nat) (0 : Nat)))), ((7 : Nat), Go.Sx.SV.one (Go.Sx.SA.sc (Go.Sx.SC.ptr (4 : Nat) (0 : Nat))))]) [Go.Sx.SO.cells (26 : Go.TypeId) [Go.Sx.SK.u a] (0 : Nat), Go.Sx.SO.cells (26 : Go.TypeId) [Go.Sx.SK.u m] (0 : Nat), Go.Sx.SO.cells (26 : Go.TypeId) Go.Proofs.Ytbfcccoeekonlaa.zeroU (0 : Nat), Go.Sx.SO.cells (94 : Go.TypeId) [Go.Sx.SK.u y.fst, Go.Sx.SK.u y.snd.fst] (0 : Nat), Go.Sx.SO.cells (94 : Go.TypeId) [Go.Sx.SK.u (Go.Proofs.Ytbfcccoeekonlaa.wrN y.snd.snd.fst), Go.Sx.SK.u (Go.Proofs.Ytbfcccoeekonlaa.wrN y.snd.snd.snd)] (0 : Nat)] = Bool.true) ∧ ∃ (y : Nat × Nat × Int × Int), (Go.Sx.EuK x1 x2 y.fst y.snd.fst y.snd.snd.fst y.snd.snd.snd ∧ Go.Sx.euE y.fst y.snd.fst y.snd.snd.fst y.snd.snd.snd = Go.Sx.euE x1 x2 (0 : Int) (1 : Int) ∧ y.fst ≤ x1) ∧ x2 = x2 ∧ (0 : Nat) = (0 : Nat) ∧ x1 = x1 ∧ (0 : Nat) = (0 : Nat) ∧ (0 : Nat) = (0 : Nat) ∧ x1 = y.fst % Go.Sx.M256 ∧ x2 = y.snd.fst % Go.Sx.M256 ∧ (0 : Nat) = (0 : Nat) ∧ ((0 : Nat) = Go.Proofs.Ytbfcccoeekonlaa.wrN y.snd.snd.fst % Go.Sx.M256 ∧ (1 : Nat) = Go.Proofs.Ytbfcccoeekonlaa.wrN y.snd.snd.snd % Go.Sx.M256 ∧ True) ∧ (0 : Nat) = (0 : Nat) ∧ ∀ (y : Nat × Nat × Int × Int), Go.Sx.EuK x1 x2 y.fst y.snd.fst y.snd.snd.fst y.snd.snd.snd ∧ Go.Sx.euE y.fst y.snd.fst y.snd.snd.fst y.snd.snd.snd = Go.Sx.euE x1 x2 (0 : Int) (1 : Int) ∧ y.fst ≤ x1 → ((!Go.Sx.conj [y.snd.fst % Go.Sx.M256 == (0 : Nat)]) = Bool.true → y.snd.fst % Go.Sx.M256 < y.fst % Go.Sx.M256 ∧ ((!!(Go.Proofs.Ytbfcccoeekonlaa.foR y.fst y.snd.fst).snd.fst == (0 : Int)) = Bool.true → ∃ (y' : Nat × Nat × Int × Int), (Go.Sx.EuK x1 x2 y'.fst y'.snd.fst y'.snd.snd.fst y'.snd.snd.snd ∧ Go.Sx.euE y'.fst y'.snd.fst y'.snd.snd.fst y'.snd.snd.snd = Go.Sx.euE x1 x2 (0 : Int) (1 : Int) ∧ y'.fst ≤ x1) ∧ x2 = x2 ∧ (0 : Nat) = (0 : Nat) ∧ x1 = x1 ∧ (0 : Nat) = (0 : Nat) ∧ (0 : Nat) = (0 : Nat) ∧ ((0 : Nat) * y.fst + (1 : Nat) * y.snd.fst) % Go.Sx.M256 = y'.fst % Go.Sx.M256 ∧ ((1 : Nat) * y.fst + ((115792089237316195423570985008687907853269984665640564039457584007913129639936 : Nat) - (if y.snd.fst % Go.Sx.M256 = (0 : Nat) then (0 : Nat) else y.fst % Go.Sx.M256 / (y.snd.fst % Go.Sx.M256)) % Go.Sx.M256) * y.snd.fst) % Go.Sx.M256 = y'.snd.fst % Go.Sx.M256 ∧ (0 : Nat) = (0 : Nat) ∧ ((0 : Nat) * Go.Proofs.Ytbfcccoeekonlaa.wrN y.snd.snd.fst + (1 : Nat) * Go.Proofs.Ytbfcccoeekonlaa.wrN y.snd.snd.snd) % Go.Sx.M256 = Go.Proofs.Ytbfcccoeekonlaa.wrN y'.snd.snd.fst % Go.Sx.M256 ∧ ((1 : Nat) * Go.Proofs.Ytbfcccoeekonlaa.wrN y.snd.snd.fst + ((115792089237316195423570985008687907853269984665640564039457584007913129639936 : Nat) - (if y.snd.fst % Go.Sx.M256 = (0 : Nat) then (0 : Nat) else y.fst % Go.Sx.M256 / (y.snd.fst % Go.Sx.M256)) % Go.Sx.M256) * Go.Proofs.Ytbfcccoeekonlaa.wrN y.snd.snd.snd) % Go.Sx.M256 = Go.Proofs.Ytbfcccoeekonlaa.wrN y'.snd.snd.snd % Go.Sx.M256 ∧ (0 : Nat) = (0 : Nat) ∧ y'.snd.fst < y.snd.fst) ∧ ((!!(Go.Proofs.Ytbfcccoeekonlaa.foR y.fst y.snd.fst).snd.fst == (0 : Int)) = Bool.false → ∃ (y' : Nat × Nat × Int × Int), (Go.Sx.EuK x1 x2 y'.fst y'.snd.fst y'.snd.snd.fst y'.snd.snd.snd ∧ Go.Sx.euE y'.fst y'.snd.fst y'.snd.snd.fst y'.snd.snd.snd = Go.Sx.euE x1 x2 (0 : Int) (1 : Int) ∧ y'.fst ≤ x1) ∧ x2 = x2 ∧ (0 : Nat) = (0 : Nat) ∧ x1 = x1 ∧ (0 : Nat) = (0 : Nat) ∧ (0 : Nat) = (0 : Nat) ∧ (Go.Proofs.Ytbfcccoeekonlaa.wrN (Go.Proofs.Ytbfcccoeekonlaa.foR y.fst y.snd.fst).fst * y.fst + Go.Proofs.Ytbfcccoeekonlaa.wrN (Go.Proofs.Ytbfcccoeekonlaa.foR y.fst y.snd.fst).snd.fst * y.snd.fst) % Go.Sx.M256 = y'.fst % Go.Sx.M256 ∧ (Go.Proofs.Ytbfcccoeekonlaa.wrN (Go.Proofs.Ytbfcccoeekonlaa.foR y.fst y.snd.fst).snd.snd.fst * y.fst + Go.Proofs.Ytbfcccoeekonlaa.wrN (Go.Proofs.Ytbfcccoeekonlaa.foR y.fst y.snd.fst).snd.snd.snd * y.snd.fst) % Go.Sx.M256 = y'.snd.fst % Go.Sx.M256 ∧ (0 : Nat) = (0 : Nat) ∧ (Go.Proofs.Ytbfcccoeekonlaa.wrN (Go.Proofs.Ytbfcccoeekonlaa.foR y.fst y.snd.fst).fst * Go.Proofs.Ytbfcccoeekonlaa.wrN y.snd.snd.fst + Go.Proofs.Ytbfcccoeekonlaa.wrN (Go.Proofs.Ytbfcccoeekonlaa.foR y.fst y.snd.fst).snd.fst * Go.Proofs.Ytbfcccoeekonlaa.wrN y.snd.snd.snd) % Go.Sx.M256 = Go.Proofs.Ytbfcccoeekonlaa.wrN y'.snd.snd.fst % Go.Sx.M256 ∧ (Go.Proofs.Ytbfcccoeekonlaa.wrN (Go.Proofs.Ytbfcccoeekonlaa.foR y.fst y.snd.fst).snd.snd.fst * Go.Proofs.Ytbfcccoeekonlaa.wrN y.snd.snd.fst + Go.Proofs.Ytbfcccoeekonlaa.wrN (Go.Proofs.Ytbfcccoeekonlaa.foR y.fst y.snd.fst).snd.snd.snd * Go.Proofs.Ytbfcccoeekonlaa.wrN y.snd.snd.snd) % Go.Sx.M256 = Go.Proofs.Ytbfcccoeekonlaa.wrN y'.snd.snd.snd % Go.Sx.M256 ∧ (0 : Nat) = (0 : Nat) ∧ y'.snd.fst < y.snd.fst)) ∧ ((!Go.Sx.conj [y.snd.fst % Go.Sx.M256 == (0 : Nat)]) = Bool.false → ((!Go.Sx.conj [y.fst % Go.Sx.M256 == (1 : Nat)]) = Bool.true → ((0 : Nat) = x3 ∧ True) ∧ (5 : Int) = x4) ∧ ((!Go.Sx.conj [y.fst % Go.Sx.M256 == (1 : Nat)]) = Bool.false → ((if (57896044618658097711785492504343953926634992332820282019728792003956564819968 : Nat) ≤ Go.Proofs.Ytbfcccoeekonlaa.wrN y.snd.snd.fst % Go.Sx.M256 then Go.Proofs.Ytbfcccoeekonlaa.wrN y.snd.snd.fst + m else Go.Proofs.Ytbfcccoeekonlaa.wrN y.snd.snd.fst) % Go.Sx.M256 = x3 ∧ True) ∧ (0 : Int) = x4))) := by kernel_rfl
-- END VC
-- VC vc_fInv HASH 8224b387e4246db1
theorem vc_fInv (a m : Nat) :
    Owes Try.prog cxInv [] 100 Try.f29 [sU a, sU m] (finvG a m) =
    (let x1 : Nat := m % Go.Sx.M256; let x2 : Nat := a % Go.Sx.M256; let x3 : Nat := Go.Proofs.Ytbfcccoeekonlaa.invN x2 x1; let x4 : Nat := (if Go.Proofs.Ytbfcccoeekonlaa.finvE a m = (0 : Int) then x3 else (0 : Nat)) % Go.Sx.M256; (Go.Sx.conj [x1 == (0 : Nat)] = Bool.true → ((0 : Nat) = x4 ∧ True) ∧ (7 : Int) = Go.Proofs.Ytbfcccoeekonlaa.finvE a m) ∧ (Go.Sx.conj [x1 == (0 : Nat)] = Bool.false → (Decidable.decide (Go.Sx.cmpN a m ≥ (0 : Int)) = Bool.true → ((0 : Nat) = x4 ∧ True) ∧ (6 : Int) = Go.Proofs.Ytbfcccoeekonlaa.finvE a m) ∧ (Decidable.decide (Go.Sx.cmpN a m ≥ (0 : Int)) = Bool.false → x2 < x1 ∧ (x3 % Go.Sx.M256 = x4 ∧ True) ∧ Go.Proofs.Ytbfcccoeekonlaa.invE x2 x1 = Go.Proofs.Ytbfcccoeekonlaa.finvE a m))) := by kernel_rfl
-- END VC

end Go.Proofs.Ytbfcccoeekonlaa
end

section
/-
  Small curves by number; inverses: laws: reckoned by the kernel. (Laid by program.)
-/
namespace Go.Proofs.Ytbfcccoeekonlaa
open Go.Sx
set_option maxRecDepth 100000
/-- The eight small curves. -/
def ixN (n : Int) : Nat := (n % 8).toNat
def cP (i : Nat) : Nat := [43, 67, 79, 139, 163, 211, 379, 691].getD i 0
def cB (i : Nat) : Nat := [7, 2, 6, 2, 3, 3, 2, 3].getD i 0
def cN (i : Nat) : Nat := [31, 73, 67, 163, 181, 199, 409, 643].getD i 0
def cX (i : Nat) : Nat := [2, 2, 5, 3, 1, 1, 5, 1].getD i 0
def cY (i : Nat) : Nat := [12, 12, 17, 53, 2, 2, 49, 2].getD i 0
def numG (k : Nat) : SV := .one (.sc (.num .i64 k))
def pickC (k : Nat) (a b : Int) : List Prop := [i64ok a, 0 < b ∧ b ≤ 1000000, a % b = (k : Int)]
def cxPickN (k : Nat) : Cx := [(6, specII (pickC k) fun _ _ => numG k)]
def cxPick : Cx := [(6, specII (fun a b => [i64ok a, 0 < b ∧ b ≤ 1000000]) pickedG)]
def curveS (i : Nat) : SA := .agg [.u (cP i), .u 0, .u (cB i), .u (cN i), .u (cX i), .u (cY i), .c (.bit false)]
def curveC : List (List At) → List Prop
  | [[.i n]] => [i64ok n]
  | _ => [False]
def curveG : List (List At) → SV
  | [[.i n]] => .one (curveS (ixN n))
  | _ => .tup []
def cxIN : Cx := [(6, specII (fun a b => [i64ok a, 0 < b ∧ b ≤ 1048576]) pickedG), (37, specUU dmG), (29, specUU finvG)]
def cxPP : Cx := [(4, specA [.int .i64] curveC curveG), (6, specII (fun a b => [i64ok a, 0 < b ∧ b ≤ 1048576]) pickedG), (61, specUUU noC fpowG), (29, specUU finvG)]
-- VC vc_pickN HASH 40ae070577a1ccad
theorem vc_pickN (k : Nat) (a b : Int) :
    Owes Try.prog Cx.none [] 100 Try.f6 [sI .i64 a, sI .i64 b] (numG k) =
    (b ≠ (0 : Int) ∧ (Decidable.decide (a.tmod b < (0 : Int)) = Bool.true → Go.IntKind.i64.wrap (a.tmod b + b) = (↑k : Int)) ∧ (Decidable.decide (a.tmod b < (0 : Int)) = Bool.false → a.tmod b = (↑k : Int))) := by kernel_rfl
-- END VC
-- VC vc_Curve0 HASH c6df19f78b1c9960
theorem vc_Curve0 (n : Int) :
    Owes Try.prog (cxPickN 0) [] 100 Try.f4 [sI .i64 n] (curveG [[.i n]]) =
    (((-9223372036854775808 : Int) ≤ n ∧ n ≤ (9223372036854775807 : Int)) ∧ ((0 : Int) < (8 : Int) ∧ (8 : Int) ≤ (1000000 : Int)) ∧ n % (8 : Int) = (0 : Int) ∧ (43 : Nat) = Go.Proofs.Ytbfcccoeekonlaa.cP (Go.Proofs.Ytbfcccoeekonlaa.ixN n) % Go.Sx.M256 ∧ (0 : Nat) = (0 : Nat) ∧ (7 : Nat) = Go.Proofs.Ytbfcccoeekonlaa.cB (Go.Proofs.Ytbfcccoeekonlaa.ixN n) % Go.Sx.M256 ∧ (31 : Nat) = Go.Proofs.Ytbfcccoeekonlaa.cN (Go.Proofs.Ytbfcccoeekonlaa.ixN n) % Go.Sx.M256 ∧ (2 : Nat) = Go.Proofs.Ytbfcccoeekonlaa.cX (Go.Proofs.Ytbfcccoeekonlaa.ixN n) % Go.Sx.M256 ∧ (12 : Nat) = Go.Proofs.Ytbfcccoeekonlaa.cY (Go.Proofs.Ytbfcccoeekonlaa.ixN n) % Go.Sx.M256 ∧ Bool.false = Bool.false ∧ True) := by kernel_rfl
-- END VC
-- VC vc_Curve1 HASH b304bd8bc9dfa860
theorem vc_Curve1 (n : Int) :
    Owes Try.prog (cxPickN 1) [] 100 Try.f4 [sI .i64 n] (curveG [[.i n]]) =
    (((-9223372036854775808 : Int) ≤ n ∧ n ≤ (9223372036854775807 : Int)) ∧ ((0 : Int) < (8 : Int) ∧ (8 : Int) ≤ (1000000 : Int)) ∧ n % (8 : Int) = (1 : Int) ∧ (67 : Nat) = Go.Proofs.Ytbfcccoeekonlaa.cP (Go.Proofs.Ytbfcccoeekonlaa.ixN n) % Go.Sx.M256 ∧ (0 : Nat) = (0 : Nat) ∧ (2 : Nat) = Go.Proofs.Ytbfcccoeekonlaa.cB (Go.Proofs.Ytbfcccoeekonlaa.ixN n) % Go.Sx.M256 ∧ (73 : Nat) = Go.Proofs.Ytbfcccoeekonlaa.cN (Go.Proofs.Ytbfcccoeekonlaa.ixN n) % Go.Sx.M256 ∧ (2 : Nat) = Go.Proofs.Ytbfcccoeekonlaa.cX (Go.Proofs.Ytbfcccoeekonlaa.ixN n) % Go.Sx.M256 ∧ (12 : Nat) = Go.Proofs.Ytbfcccoeekonlaa.cY (Go.Proofs.Ytbfcccoeekonlaa.ixN n) % Go.Sx.M256 ∧ Bool.false = Bool.false ∧ True) := by kernel_rfl
-- END VC
-- VC vc_Curve2 HASH 8eeed9d41717a311
theorem vc_Curve2 (n : Int) :
    Owes Try.prog (cxPickN 2) [] 100 Try.f4 [sI .i64 n] (curveG [[.i n]]) =
    (((-9223372036854775808 : Int) ≤ n ∧ n ≤ (9223372036854775807 : Int)) ∧ ((0 : Int) < (8 : Int) ∧ (8 : Int) ≤ (1000000 : Int)) ∧ n % (8 : Int) = (2 : Int) ∧ (79 : Nat) = Go.Proofs.Ytbfcccoeekonlaa.cP (Go.Proofs.Ytbfcccoeekonlaa.ixN n) % Go.Sx.M256 ∧ (0 : Nat) = (0 : Nat) ∧ (6 : Nat) = Go.Proofs.Ytbfcccoeekonlaa.cB (Go.Proofs.Ytbfcccoeekonlaa.ixN n) % Go.Sx.M256 ∧ (67 : Nat) = Go.Proofs.Ytbfcccoeekonlaa.cN (Go.Proofs.Ytbfcccoeekonlaa.ixN n) % Go.Sx.M256 ∧ (5 : Nat) = Go.Proofs.Ytbfcccoeekonlaa.cX (Go.Proofs.Ytbfcccoeekonlaa.ixN n) % Go.Sx.M256 ∧ (17 : Nat) = Go.Proofs.Ytbfcccoeekonlaa.cY (Go.Proofs.Ytbfcccoeekonlaa.ixN n) % Go.Sx.M256 ∧ Bool.false = Bool.false ∧ True) := by kernel_rfl
-- END VC
-- VC vc_Curve3 HASH edd3d159bacb37cd
theorem vc_Curve3 (n : Int) :
    Owes Try.prog (cxPickN 3) [] 100 Try.f4 [sI .i64 n] (curveG [[.i n]]) =
    (((-9223372036854775808 : Int) ≤ n ∧ n ≤ (9223372036854775807 : Int)) ∧ ((0 : Int) < (8 : Int) ∧ (8 : Int) ≤ (1000000 : Int)) ∧ n % (8 : Int) = (3 : Int) ∧ (139 : Nat) = Go.Proofs.Ytbfcccoeekonlaa.cP (Go.Proofs.Ytbfcccoeekonlaa.ixN n) % Go.Sx.M256 ∧ (0 : Nat) = (0 : Nat) ∧ (2 : Nat) = Go.Proofs.Ytbfcccoeekonlaa.cB (Go.Proofs.Ytbfcccoeekonlaa.ixN n) % Go.Sx.M256 ∧ (163 : Nat) = Go.Proofs.Ytbfcccoeekonlaa.cN (Go.Proofs.Ytbfcccoeekonlaa.ixN n) % Go.Sx.M256 ∧ (3 : Nat) = Go.Proofs.Ytbfcccoeekonlaa.cX (Go.Proofs.Ytbfcccoeekonlaa.ixN n) % Go.Sx.M256 ∧ (53 : Nat) = Go.Proofs.Ytbfcccoeekonlaa.cY (Go.Proofs.Ytbfcccoeekonlaa.ixN n) % Go.Sx.M256 ∧ Bool.false = Bool.false ∧ True) := by kernel_rfl
-- END VC
-- VC vc_Curve4 HASH bd8a297845c76007
theorem vc_Curve4 (n : Int) :
    Owes Try.prog (cxPickN 4) [] 100 Try.f4 [sI .i64 n] (curveG [[.i n]]) =
    (((-9223372036854775808 : Int) ≤ n ∧ n ≤ (9223372036854775807 : Int)) ∧ ((0 : Int) < (8 : Int) ∧ (8 : Int) ≤ (1000000 : Int)) ∧ n % (8 : Int) = (4 : Int) ∧ (163 : Nat) = Go.Proofs.Ytbfcccoeekonlaa.cP (Go.Proofs.Ytbfcccoeekonlaa.ixN n) % Go.Sx.M256 ∧ (0 : Nat) = (0 : Nat) ∧ (3 : Nat) = Go.Proofs.Ytbfcccoeekonlaa.cB (Go.Proofs.Ytbfcccoeekonlaa.ixN n) % Go.Sx.M256 ∧ (181 : Nat) = Go.Proofs.Ytbfcccoeekonlaa.cN (Go.Proofs.Ytbfcccoeekonlaa.ixN n) % Go.Sx.M256 ∧ (1 : Nat) = Go.Proofs.Ytbfcccoeekonlaa.cX (Go.Proofs.Ytbfcccoeekonlaa.ixN n) % Go.Sx.M256 ∧ (2 : Nat) = Go.Proofs.Ytbfcccoeekonlaa.cY (Go.Proofs.Ytbfcccoeekonlaa.ixN n) % Go.Sx.M256 ∧ Bool.false = Bool.false ∧ True) := by kernel_rfl
-- END VC
-- VC vc_Curve5 HASH 84bd21fd696db28f
theorem vc_Curve5 (n : Int) :
    Owes Try.prog (cxPickN 5) [] 100 Try.f4 [sI .i64 n] (curveG [[.i n]]) =
    (((-9223372036854775808 : Int) ≤ n ∧ n ≤ (9223372036854775807 : Int)) ∧ ((0 : Int) < (8 : Int) ∧ (8 : Int) ≤ (1000000 : Int)) ∧ n % (8 : Int) = (5 : Int) ∧ (211 : Nat) = Go.Proofs.Ytbfcccoeekonlaa.cP (Go.Proofs.Ytbfcccoeekonlaa.ixN n) % Go.Sx.M256 ∧ (0 : Nat) = (0 : Nat) ∧ (3 : Nat) = Go.Proofs.Ytbfcccoeekonlaa.cB (Go.Proofs.Ytbfcccoeekonlaa.ixN n) % Go.Sx.M256 ∧ (199 : Nat) = Go.Proofs.Ytbfcccoeekonlaa.cN (Go.Proofs.Ytbfcccoeekonlaa.ixN n) % Go.Sx.M256 ∧ (1 : Nat) = Go.Proofs.Ytbfcccoeekonlaa.cX (Go.Proofs.Ytbfcccoeekonlaa.ixN n) % Go.Sx.M256 ∧ (2 : Nat) = Go.Proofs.Ytbfcccoeekonlaa.cY (Go.Proofs.Ytbfcccoeekonlaa.ixN n) % Go.Sx.M256 ∧ Bool.false = Bool.false ∧ True) := by kernel_rfl
-- END VC
-- VC vc_Curve6 HASH d8df98769e97661d
theorem vc_Curve6 (n : Int) :
    Owes Try.prog (cxPickN 6) [] 100 Try.f4 [sI .i64 n] (curveG [[.i n]]) =
    (((-9223372036854775808 : Int) ≤ n ∧ n ≤ (9223372036854775807 : Int)) ∧ ((0 : Int) < (8 : Int) ∧ (8 : Int) ≤ (1000000 : Int)) ∧ n % (8 : Int) = (6 : Int) ∧ (379 : Nat) = Go.Proofs.Ytbfcccoeekonlaa.cP (Go.Proofs.Ytbfcccoeekonlaa.ixN n) % Go.Sx.M256 ∧ (0 : Nat) = (0 : Nat) ∧ (2 : Nat) = Go.Proofs.Ytbfcccoeekonlaa.cB (Go.Proofs.Ytbfcccoeekonlaa.ixN n) % Go.Sx.M256 ∧ (409 : Nat) = Go.Proofs.Ytbfcccoeekonlaa.cN (Go.Proofs.Ytbfcccoeekonlaa.ixN n) % Go.Sx.M256 ∧ (5 : Nat) = Go.Proofs.Ytbfcccoeekonlaa.cX (Go.Proofs.Ytbfcccoeekonlaa.ixN n) % Go.Sx.M256 ∧ (49 : Nat) = Go.Proofs.Ytbfcccoeekonlaa.cY (Go.Proofs.Ytbfcccoeekonlaa.ixN n) % Go.Sx.M256 ∧ Bool.false = Bool.false ∧ True) := by kernel_rfl
-- END VC
-- VC vc_Curve7 HASH b58ce194cfcd385d
theorem vc_Curve7 (n : Int) :
    Owes Try.prog (cxPickN 7) [] 100 Try.f4 [sI .i64 n] (curveG [[.i n]]) =
    (((-9223372036854775808 : Int) ≤ n ∧ n ≤ (9223372036854775807 : Int)) ∧ ((0 : Int) < (8 : Int) ∧ (8 : Int) ≤ (1000000 : Int)) ∧ n % (8 : Int) = (7 : Int) ∧ (691 : Nat) = Go.Proofs.Ytbfcccoeekonlaa.cP (Go.Proofs.Ytbfcccoeekonlaa.ixN n) % Go.Sx.M256 ∧ (0 : Nat) = (0 : Nat) ∧ (3 : Nat) = Go.Proofs.Ytbfcccoeekonlaa.cB (Go.Proofs.Ytbfcccoeekonlaa.ixN n) % Go.Sx.M256 ∧ (643 : Nat) = Go.Proofs.Ytbfcccoeekonlaa.cN (Go.Proofs.Ytbfcccoeekonlaa.ixN n) % Go.Sx.M256 ∧ (1 : Nat) = Go.Proofs.Ytbfcccoeekonlaa.cX (Go.Proofs.Ytbfcccoeekonlaa.ixN n) % Go.Sx.M256 ∧ (2 : Nat) = Go.Proofs.Ytbfcccoeekonlaa.cY (Go.Proofs.Ytbfcccoeekonlaa.ixN n) % Go.Sx.M256 ∧ Bool.false = Bool.false ∧ True) := by kernel_rfl
-- END VC
-- VC vc_pickBig HASH c70aa24e9f6edddb
theorem vc_pickBig (a b : Int) :
    Owes Try.prog Cx.none [] 100 Try.f6 [sI .i64 a, sI .i64 b] (pickedG a b) =
    (let x1 : Int := a % b; b ≠ (0 : Int) ∧ (Decidable.decide (a.tmod b < (0 : Int)) = Bool.true → Go.IntKind.i64.wrap (a.tmod b + b) = x1) ∧ (Decidable.decide (a.tmod b < (0 : Int)) = Bool.false → a.tmod b = x1)) := by kernel_rfl
-- END VC
end Go.Proofs.Ytbfcccoeekonlaa
end

section
/-
  Package curve: hands: reckoned by the kernel. (Laid by program.)
-/
namespace Go.Proofs.Ytbfcccoeekonlaa
open Go.Sx
set_option maxRecDepth 100000
abbrev shH1 : List AP := [.hand, .str [.u]]
abbrev shH2 : List AP := [.hand, .str [.u], .str [.u]]
abbrev sHand (m : Nat) (v : Option Addr) : SA := .agg [.u m, .c (.val (.pointer v))]
def keptC : List (List At) → List Prop
  | [[.u _], [.u _], [.i e]] => [e = 0]
  | _ => [False]
def keptG : List (List At) → SV
  | [[.u _], [.u a], [.i _]] => .one (sU a)
  | _ => .tup []
def h2C : List (List At) → List Prop
  | [[.u m], [.u a], [.u b]] => [a % M256 < m % M256, b % M256 < m % M256]
  | _ => [False]
def h1C : List (List At) → List Prop
  | [[.u m], [.u a]] => [a % M256 < m % M256]
  | _ => [False]
def hdivC : List (List At) → List Prop
  | [[.u m], [.u a], [.u b]] => [a % M256 < m % M256, b % M256 < m % M256, Nat.gcd (b % M256) (m % M256) = 1]
  | _ => [False]
def haddG : List (List At) → SV
  | [[.u m], [.u a], [.u b]] => .one (sU ((a % M256 + b % M256) % (m % M256)))
  | _ => .tup []
def hsubG : List (List At) → SV
  | [[.u m], [.u a], [.u b]] => .one (sU ((a % M256 + m % M256 - b % M256) % (m % M256)))
  | _ => .tup []
def hmulG : List (List At) → SV
  | [[.u m], [.u a], [.u b]] => .one (sU (a % M256 * (b % M256) % (m % M256)))
  | _ => .tup []
def hdivG : List (List At) → SV
  | [[.u m], [.u a], [.u b]] => .one (sU (a % M256 * invN (b % M256) (m % M256) % (m % M256)))
  | _ => .tup []
def htwiceG : List (List At) → SV
  | [[.u m], [.u a]] => .one (sU ((a % M256 + a % M256) % (m % M256)))
  | _ => .tup []
def hthriceG : List (List At) → SV
  | [[.u m], [.u a]] => .one (sU ((a % M256 + (a % M256 + a % M256) % (m % M256)) % (m % M256)))
  | _ => .tup []
def hrootG : List (List At) → SV
  | [[.u m], [.u a]] => .one (sU ((a % M256) ^ (m % M256 / 4 + 1) % (m % M256)))
  | _ => .tup []
def cKept : FSpec := specA [.hand, .str [.u], .int .i64] keptC keptG
def cHadd : FSpec := specA shH2 h2C haddG
def cHsub : FSpec := specA shH2 h2C hsubG
def cHmul : FSpec := specA shH2 h2C hmulG
def cHdiv : FSpec := specA shH2 hdivC hdivG
def cTwice : FSpec := specA shH1 h1C htwiceG
def cThrice : FSpec := specA shH1 h1C hthriceG
def cRoot : FSpec := specA shH1 h1C hrootG
def cxHadd : Cx := [(76, specUUU noC faddG), (60, cKept)]
def cxHsub : Cx := [(32, specUUU noC fsubG), (60, cKept)]
def cxHmul : Cx := [(33, specUUU noC fmulG), (60, cKept)]
def cxHdiv : Cx := [(29, specUU finvG), (60, cKept), (54, cHmul)]
def cxTwice : Cx := [(57, cHadd)]
def cxThrice : Cx := [(57, cHadd), (56, cTwice)]
def cxRoot : Cx := [(37, specUU dmG), (27, specUU addG), (61, specUUU noC fpowG), (60, cKept)]
-- VC vc_kept HASH 3e4b98832f16c661
theorem vc_kept (m a : Nat) (e : Int) (v : Option Addr) :
    Owes Try.prog Cx.none [] 100 Try.f60 [sHand m v, sU a, sI .i64 e] (keptG [[.u m], [.u a], [.i e]]) =
    (let x1 : Nat := a % Go.Sx.M256; ((!e == (0 : Int)) = Bool.true → Go.Sx.Stuck { dst := Option.some (8 : Nat), op := Go.Op.nilCheck (Go.Operand.tmp (7 : Nat)), type := (0 : Nat), pos := "hand.go:19", after := #[{ on := (1 : Nat), ground := Go.Ground.data }, { on := (0 : Nat), ground := Go.Ground.phase }, { on := (1 : Nat), ground := Go.Ground.phase }], guard := Option.none }) ∧ ((!e == (0 : Int)) = Bool.false → x1 = x1 ∧ True)) := by kernel_rfl
-- END VC
-- VC vc_hadd HASH 8153c6ad2572595a
theorem vc_hadd (m a b : Nat) (v : Option Addr) :
    Owes Try.prog cxHadd [] 100 Try.f57 [sHand m v, sU a, sU b] (haddG [[.u m], [.u a], [.u b]]) =
    (let x1 : Nat := (a % Go.Sx.M256 + b % Go.Sx.M256) % (m % Go.Sx.M256); Go.Proofs.Ytbfcccoeekonlaa.fE a b m = (0 : Int) ∧ (if Go.Proofs.Ytbfcccoeekonlaa.fE a b m = (0 : Int) then x1 else (0 : Nat)) % Go.Sx.M256 = x1 % Go.Sx.M256 ∧ True) := by kernel_rfl
-- END VC
-- VC vc_hsub HASH 70646fafcbdf2cdd
theorem vc_hsub (m a b : Nat) (v : Option Addr) :
    Owes Try.prog cxHsub [] 100 Try.f45 [sHand m v, sU a, sU b] (hsubG [[.u m], [.u a], [.u b]]) =
    (let x1 : Nat := m % Go.Sx.M256; let x2 : Nat := (a % Go.Sx.M256 + x1 - b % Go.Sx.M256) % x1; Go.Proofs.Ytbfcccoeekonlaa.fE a b m = (0 : Int) ∧ (if Go.Proofs.Ytbfcccoeekonlaa.fE a b m = (0 : Int) then x2 else (0 : Nat)) % Go.Sx.M256 = x2 % Go.Sx.M256 ∧ True) := by kernel_rfl
-- END VC
-- VC vc_hmul HASH e72e041cdec4ccbc
theorem vc_hmul (m a b : Nat) (v : Option Addr) :
    Owes Try.prog cxHmul [] 100 Try.f54 [sHand m v, sU a, sU b] (hmulG [[.u m], [.u a], [.u b]]) =
    (let x1 : Nat := a % Go.Sx.M256 * (b % Go.Sx.M256) % (m % Go.Sx.M256); Go.Proofs.Ytbfcccoeekonlaa.fE a b m = (0 : Int) ∧ (if Go.Proofs.Ytbfcccoeekonlaa.fE a b m = (0 : Int) then x1 else (0 : Nat)) % Go.Sx.M256 = x1 % Go.Sx.M256 ∧ True) := by kernel_rfl
-- END VC
-- VC vc_hdiv HASH a76823f540f55690
theorem vc_hdiv (m a b : Nat) (v : Option Addr) :
    Owes Try.prog cxHdiv [] 100 Try.f80 [sHand m v, sU a, sU b] (hdivG [[.u m], [.u a], [.u b]]) =
    (let x1 : Nat := a % Go.Sx.M256; let x2 : Nat := m % Go.Sx.M256; let x3 : Nat := Go.Proofs.Ytbfcccoeekonlaa.invN (b % Go.Sx.M256) x2; let x4 : Nat := (if Go.Proofs.Ytbfcccoeekonlaa.finvE b m = (0 : Int) then x3 else (0 : Nat)) % Go.Sx.M256; Go.Proofs.Ytbfcccoeekonlaa.finvE b m = (0 : Int) ∧ x1 < x2 ∧ x4 < x2 ∧ x1 * x4 % x2 % Go.Sx.M256 = x1 * x3 % x2 % Go.Sx.M256 ∧ True) := by kernel_rfl
-- END VC
-- VC vc_twice HASH 6cb39db844b7e4b6
theorem vc_twice (m a : Nat) (v : Option Addr) :
    Owes Try.prog cxTwice [] 100 Try.f56 [sHand m v, sU a] (htwiceG [[.u m], [.u a]]) =
    (let x1 : Nat := a % Go.Sx.M256; let x2 : Nat := m % Go.Sx.M256; let x3 : Nat := (x1 + x1) % x2 % Go.Sx.M256; x1 < x2 ∧ x1 < x2 ∧ x3 = x3 ∧ True) := by kernel_rfl
-- END VC
-- VC vc_thrice HASH def012398cdf2bed
theorem vc_thrice (m a : Nat) (v : Option Addr) :
    Owes Try.prog cxThrice [] 100 Try.f58 [sHand m v, sU a] (hthriceG [[.u m], [.u a]]) =
    (let x1 : Nat := a % Go.Sx.M256; let x2 : Nat := m % Go.Sx.M256; let x3 : Nat := (x1 + x1) % x2; let x4 : Nat := x3 % Go.Sx.M256; x1 < x2 ∧ x1 < x2 ∧ x4 < x2 ∧ (x1 + x4) % x2 % Go.Sx.M256 = (x1 + x3) % x2 % Go.Sx.M256 ∧ True) := by kernel_rfl
-- END VC
-- VC vc_root HASH d4ca52a973e01d03
theorem vc_root (m a : Nat) (v : Option Addr) :
    Owes Try.prog cxRoot [] 100 Try.f42 [sHand m v, sU a] (hrootG [[.u m], [.u a]]) =
    (let x1 : Nat := m % Go.Sx.M256; let x2 : Nat := x1 / (4 : Nat); Go.Proofs.Ytbfcccoeekonlaa.pE a m = (0 : Int) ∧ (if Go.Proofs.Ytbfcccoeekonlaa.pE a m = (0 : Int) then (a % Go.Sx.M256) ^ (((if (4 : Nat) = (0 : Nat) then (0 : Nat) else x2) + (1 : Nat)) % Go.Sx.M256) % x1 else (0 : Nat)) % Go.Sx.M256 = (a % Go.Sx.M256) ^ (x2 + (1 : Nat)) % x1 % Go.Sx.M256 ∧ True) := by kernel_rfl
-- END VC

end Go.Proofs.Ytbfcccoeekonlaa
end

section
/-
  Package curve: points: reckoned by the kernel. (Laid by program.)
-/
namespace Go.Proofs.Ytbfcccoeekonlaa
open Go.Sx
set_option maxRecDepth 100000
abbrev pPt : List PK := [.u, .u, .b]
abbrev pCv : List PK := [.u, .u, .u, .u, .u, .u, .b]
abbrev Pt := Nat × Nat × Bool
abbrev sPt (x y : Nat) (f : Bool) : SA := .agg [.u x, .u y, .c (.val (.bool f))]
abbrev sCv (P A B N X Y : Nat) (F : Bool) : SA := .agg [.u P, .u A, .u B, .u N, .u X, .u Y, .c (.val (.bool F))]
def ptS (p : Pt) : SA := .agg [.u p.1, .u p.2.1, .c (.val (.bool p.2.2))]
def red (x y : Nat) (f : Bool) : Pt := (x % M256, y % M256, f)
def tw3 (m x : Nat) : Nat := (x + (x + x) % m) % m
def rhsN (m A B x : Nat) : Nat := ((x * (x * x % m) % m + A * x % m) % m + B) % m
def slopesN (m A B : Nat) : Nat := (((A * (A * A % m) % m + A * (A * A % m) % m) % m + (A * (A * A % m) % m + A * (A * A % m) % m) % m) % m + tw3 m (tw3 m (tw3 m (B * B % m)))) % m
def slopeN (m A : Nat) (p q : Pt) : Nat :=
  if p = q then (tw3 m (p.1 * p.1 % m) + A) % m * invN ((p.2.1 + p.2.1) % m) m % m
  else (q.2.1 + m - p.2.1) % m * invN ((q.1 + m - p.1) % m) m % m
def throughN (m : Nat) (s : Nat) (p q : Pt) : Pt :=
  (((s * s % m + m - p.1) % m + m - q.1) % m, (s * ((p.1 + m - ((s * s % m + m - p.1) % m + m - q.1) % m) % m) % m + m - p.2.1) % m, false)
def csum (m A : Nat) (p q : Pt) : Pt :=
  if p.2.2 = true then q else if q.2.2 = true then p else if p.1 = q.1 ∧ (p.2.1 + q.2.1) % m = 0 then (0, 0, true) else throughN m (slopeN m A p q) p q
structure inP (m : Nat) (p : Pt) : Prop where
  lt : p.2.2 = false → p.1 < m ∧ p.2.1 < m
structure slopeOK (m : Nat) (p q : Pt) : Prop where
  eq : p = q → Nat.gcd ((p.2.1 + p.2.1) % m) m = 1
  ne : p ≠ q → Nat.gcd ((q.1 + m - p.1) % m) m = 1
structure sumOK (m A : Nat) (p q : Pt) : Prop where
  A0 : A < m
  p0 : inP m p
  q0 : inP m q
  sl : p.2.2 = false → q.2.2 = false → ¬ (p.1 = q.1 ∧ (p.2.1 + q.2.1) % m = 0) → slopeOK m p q
structure onP (m A B : Nat) (p : Pt) : Prop where
  far : p.2.2 = true → p.1 = 0 ∧ p.2.1 = 0
  near : p.2.2 = false → p.1 < m ∧ p.2.1 < m ∧ p.2.1 * p.2.1 % m = rhsN m A B p.1
structure goodP (P A B N : Nat) (b : Pt) : Prop where
  P3 : 3 < P
  P4 : P % 4 = 3
  N1 : 1 < N
  A0 : A < P
  B0 : B < P
  s0 : slopesN P A B ≠ 0
  b0 : b.2.2 = false
  on : onP P A B b
/-- A point so often, by the bits of a number, from the highest one on. -/
def cmulR (m A k : Nat) (p : Pt) : Nat → Pt
  | 0 => (0, 0, true)
  | n + 1 => if k.testBit (255 - n) = true then csum m A (csum m A (cmulR m A k p n) (cmulR m A k p n)) p else csum m A (cmulR m A k p n) (cmulR m A k p n)
structure mulOK (m A k : Nat) (p : Pt) : Prop where
  dbl : ∀ n, n < 256 → sumOK m A (cmulR m A k p n) (cmulR m A k p n)
  add : ∀ n, n < 256 → k.testBit (255 - n) = true → sumOK m A (csum m A (cmulR m A k p n) (cmulR m A k p n)) p
def rightC : List (List At) → List Prop
  | [[.u m], [.u _, .u A, .u B, .u _, .u _, .u _, .b _], [.u x]] => [A % M256 < m % M256, B % M256 < m % M256, x % M256 < m % M256]
  | _ => [False]
def rightG : List (List At) → SV
  | [[.u m], [.u _, .u A, .u B, .u _, .u _, .u _, .b _], [.u x]] => .one (sU (rhsN (m % M256) (A % M256) (B % M256) (x % M256)))
  | _ => .tup []
def slopesC : List (List At) → List Prop
  | [[.u m], [.u _, .u A, .u B, .u _, .u _, .u _, .b _]] => [A % M256 < m % M256, B % M256 < m % M256]
  | _ => [False]
def slopesG : List (List At) → SV
  | [[.u m], [.u _, .u A, .u B, .u _, .u _, .u _, .b _]] => .one (sU (slopesN (m % M256) (A % M256) (B % M256)))
  | _ => .tup []
def haveC : List (List At) → List Prop
  | [[.u m], [.u _, .u A, .u B, .u _, .u _, .u _, .b _], [.u x, .u y, .b f]] => [A % M256 < m % M256, B % M256 < m % M256, onP (m % M256) (A % M256) (B % M256) (red x y f)]
  | _ => [False]
def voidG : List (List At) → SV := fun _ => .tup []
def beC : List (List At) → List Prop
  | [[.u m], [.u P, .u A, .u B, .u N, .u X, .u Y, .b F]] => [m % M256 = P % M256, goodP (P % M256) (A % M256) (B % M256) (N % M256) (red X Y F)]
  | _ => [False]
def slopeC : List (List At) → List Prop
  | [[.u m], [.u A], [.u x, .u y, .b f], [.u z, .u w, .b g]] => [A % M256 < m % M256, f = false, g = false, inP (m % M256) (red x y f), inP (m % M256) (red z w g), slopeOK (m % M256) (red x y f) (red z w g)]
  | _ => [False]
def slopeG : List (List At) → SV
  | [[.u m], [.u A], [.u x, .u y, .b f], [.u z, .u w, .b g]] => .one (sU (slopeN (m % M256) (A % M256) (red x y f) (red z w g)))
  | _ => .tup []
def sumPC : List (List At) → List Prop
  | [[.u m], [.u A], [.u x, .u y, .b f], [.u z, .u w, .b g]] => [sumOK (m % M256) (A % M256) (red x y f) (red z w g)]
  | _ => [False]
def sumPG : List (List At) → SV
  | [[.u m], [.u A], [.u x, .u y, .b f], [.u z, .u w, .b g]] => .one (ptS (csum (m % M256) (A % M256) (red x y f) (red z w g)))
  | _ => .tup []
def toldC : List (List At) → List Prop
  | [[.u _, .u _, .b _], [.i e]] => [e = 0]
  | _ => [False]
def toldG : List (List At) → SV
  | [[.u x, .u y, .b f], [.i _]] => .tup [sPt x y f, .sc (.num .i64 0)]
  | _ => .tup []
def oddG (a : Nat) : SV := .one (sB (a % M256 % 2 == 1))
def farG : SV := .one (.agg [.u 0, .u 0, .c (.bit true)])
def cAddC : List (List At) → List Prop
  | [[.u P, .u A, .u B, .u N, .u X, .u Y, .b F], [.u x, .u y, .b f], [.u z, .u w, .b g]] => [goodP (P % M256) (A % M256) (B % M256) (N % M256) (red X Y F), onP (P % M256) (A % M256) (B % M256) (red x y f), onP (P % M256) (A % M256) (B % M256) (red z w g), sumOK (P % M256) (A % M256) (red x y f) (red z w g)]
  | _ => [False]
def cAddG : List (List At) → SV
  | [[.u P, .u A, .u _, .u _, .u _, .u _, .b _], [.u x, .u y, .b f], [.u z, .u w, .b g]] => .tup [ptS (csum (P % M256) (A % M256) (red x y f) (red z w g)), .sc (.num .i64 0)]
  | _ => .tup []
def cMultC : List (List At) → List Prop
  | [[.u P, .u A, .u B, .u N, .u X, .u Y, .b F], [.u k], [.u x, .u y, .b f]] => [goodP (P % M256) (A % M256) (B % M256) (N % M256) (red X Y F), onP (P % M256) (A % M256) (B % M256) (red x y f), mulOK (P % M256) (A % M256) (k % M256) (red x y f)]
  | _ => [False]
def cMultG : List (List At) → SV
  | [[.u P, .u A, .u _, .u _, .u _, .u _, .b _], [.u k], [.u x, .u y, .b f]] => .tup [ptS (cmulR (P % M256) (A % M256) (k % M256) (red x y f) 256), .sc (.num .i64 0)]
  | _ => .tup []
def cOnC : List (List At) → List Prop
  | [[.u P, .u A, .u B, .u N, .u X, .u Y, .b F], [.u x, .u y, .b f]] => [goodP (P % M256) (A % M256) (B % M256) (N % M256) (red X Y F), f = true → x % M256 = 0 ∧ y % M256 = 0, f = false → x % M256 < P % M256 ∧ y % M256 < P % M256]
  | _ => [False]
def onE (P A B : Nat) (p : Pt) : Int := if p.2.2 = true then 0 else if p.2.1 * p.2.1 % P = rhsN P A B p.1 then 0 else 16
def cOnG : List (List At) → SV
  | [[.u P, .u A, .u B, .u _, .u _, .u _, .b _], [.u x, .u y, .b f]] => .one (sI .i64 (onE (P % M256) (A % M256) (B % M256) (red x y f)))
  | _ => .tup []
def cRight : FSpec := specA [.hand, .str pCv, .str [.u]] rightC rightG
def cSlopes : FSpec := specA [.hand, .str pCv] slopesC slopesG
def cHave : FSpec := specA [.hand, .str pCv, .str pPt] haveC voidG
def cBe : FSpec := specA [.hand, .str pCv] beC voidG
def cSlope : FSpec := specA [.hand, .str [.u], .str pPt, .str pPt] slopeC slopeG
def cSum : FSpec := specA [.hand, .str [.u], .str pPt, .str pPt] sumPC sumPG
def cTold : FSpec := specA [.str pPt, .int .i64] toldC toldG
def cxRight : Cx := [(57, cHadd), (54, cHmul)]
def cxSlopes : Cx := [(57, cHadd), (54, cHmul), (56, cTwice), (58, cThrice)]
def cxHave : Cx := [(54, cHmul), (43, cRight), (49, spec0 farG)]
def cxBe : Cx := [(39, specUU cmpG), (40, cSlopes), (36, cHave)]
def cxSlope : Cx := [(57, cHadd), (45, cHsub), (54, cHmul), (80, cHdiv), (56, cTwice), (58, cThrice)]
def cxSumP : Cx := [(57, cHadd), (45, cHsub), (54, cHmul), (66, cSlope), (49, spec0 farG)]
def cxCAdd : Cx := [(24, cBe), (36, cHave), (50, cSum), (46, cTold)]
def cxCMult : Cx := [(24, cBe), (36, cHave), (50, cSum), (46, cTold), (49, spec0 farG)]
def cxCOn : Cx := [(24, cBe), (54, cHmul), (43, cRight), (49, spec0 farG)]
def invMult (P A B N X Y : Nat) (F : Bool) (k x y : Nat) (f : Bool) : Inv where
  X := Nat
  tm j := slotsAt 57 [(3, .one (.sc (.ptr 0 0))), (4, .one (.sc (.ptr 1 0))), (5, .one (.sc (.ptr 2 0))), (6, .one (.sc (.ptr 3 0))), (8, .one (.sc (.ptr 4 0))), (9, .one (.sc (.ptr 5 0))), (10, .one (.sc (.ptr 6 0))), (11, .one (sI .i64 (255 - (j : Int))))]
  ob j := [.cells 30 [.u P, .u A, .u B, .u N, .u X, .u Y, .c (.val (.bool F))] 0, .cells 26 [.u k] 0, .cells 28 [.u x, .u y, .c (.val (.bool f))] 0, .cells 28 (zeroU ++ zeroU ++ [.c (.bit false)]) 0, .cells 36 [.c (.num .i64 0)] 0, .cells 61 [.u P, .c (.ptr 4 0)] 0, .cells 28 [.u (cmulR (P % M256) (A % M256) (k % M256) (red x y f) j).1, .u (cmulR (P % M256) (A % M256) (k % M256) (red x y f) j).2.1, .c (.val (.bool (cmulR (P % M256) (A % M256) (k % M256) (red x y f) j).2.2))] 0]
  holds j := j ≤ 256
  less j := 256 - j
-- VC vc_right HASH 098b51404ff67e2c
theorem vc_right (m P A B N X Y x : Nat) (F : Bool) (v : Option Addr) :
    Owes Try.prog cxRight [] 100 Try.f43 [sHand m v, sCv P A B N X Y F, sU x] (rightG [[.u m], [.u P, .u A, .u B, .u N, .u X, .u Y, .b F], [.u x]]) =
    (let x1 : Nat := x % Go.Sx.M256; let x2 : Nat := m % Go.Sx.M256; let x3 : Nat := x1 * x1 % x2 % Go.Sx.M256; let x4 : Nat := A % Go.Sx.M256; let x5 : Nat := x1 * x3 % x2 % Go.Sx.M256; let x6 : Nat := x4 * x1 % x2 % Go.Sx.M256; let x7 : Nat := (x5 + x6) % x2 % Go.Sx.M256; let x8 : Nat := B % Go.Sx.M256; x1 < x2 ∧ x1 < x2 ∧ x1 < x2 ∧ x3 < x2 ∧ x4 < x2 ∧ x1 < x2 ∧ x5 < x2 ∧ x6 < x2 ∧ x7 < x2 ∧ x8 < x2 ∧ (x7 + x8) % x2 % Go.Sx.M256 = Go.Proofs.Ytbfcccoeekonlaa.rhsN x2 x4 x8 x1 % Go.Sx.M256 ∧ True) := by kernel_rfl
-- END VC
-- VC vc_slopes HASH 16eff754cb9287e9
theorem vc_slopes (m P A B N X Y : Nat) (F : Bool) (v : Option Addr) :
    Owes Try.prog cxSlopes [] 100 Try.f40 [sHand m v, sCv P A B N X Y F] (slopesG [[.u m], [.u P, .u A, .u B, .u N, .u X, .u Y, .b F]]) =
    (let x1 : Nat := A % Go.Sx.M256; let x2 : Nat := m % Go.Sx.M256; let x3 : Nat := x1 * x1 % x2 % Go.Sx.M256; let x4 : Nat := B % Go.Sx.M256; let x5 : Nat := x1 * x3 % x2 % Go.Sx.M256; let x6 : Nat := (x5 + x5) % x2 % Go.Sx.M256; let x7 : Nat := x4 * x4 % x2 % Go.Sx.M256; let x8 : Nat := (x7 + (x7 + x7) % x2) % x2 % Go.Sx.M256; let x9 : Nat := (x8 + (x8 + x8) % x2) % x2 % Go.Sx.M256; let x10 : Nat := (x6 + x6) % x2 % Go.Sx.M256; let x11 : Nat := (x9 + (x9 + x9) % x2) % x2 % Go.Sx.M256; x1 < x2 ∧ x1 < x2 ∧ x1 < x2 ∧ x3 < x2 ∧ x4 < x2 ∧ x4 < x2 ∧ x5 < x2 ∧ x6 < x2 ∧ x7 < x2 ∧ x8 < x2 ∧ x9 < x2 ∧ x10 < x2 ∧ x11 < x2 ∧ (x10 + x11) % x2 % Go.Sx.M256 = Go.Proofs.Ytbfcccoeekonlaa.slopesN x2 x1 x4 % Go.Sx.M256 ∧ True) := by kernel_rfl
-- END VC
-- VC vc_have HASH d61cd70bb51e3529
theorem vc_have (m P A B N X Y x y : Nat) (F f : Bool) (v : Option Addr) :
    Owes Try.prog cxHave [] 100 Try.f36 [sHand m v, sCv P A B N X Y F, sPt x y f] (.tup []) =
    (let x1 : Nat := x % Go.Sx.M256; let x2 : Nat := y % Go.Sx.M256; let x3 : Nat := m % Go.Sx.M256; let x4 : Nat := A % Go.Sx.M256; let x5 : Nat := B % Go.Sx.M256; (f = Bool.true → ((!Go.Sx.conj [x1 == (0 : Nat), x2 == (0 : Nat), f == Bool.true]) = Bool.true → Go.Sx.Stuck { dst := Option.some (8 : Nat), op := Go.Op.nilCheck (Go.Operand.tmp (7 : Nat)), type := (0 : Nat), pos := "hand.go:19", after := #[{ on := (1 : Nat), ground := Go.Ground.data }, { on := (0 : Nat), ground := Go.Ground.phase }, { on := (1 : Nat), ground := Go.Ground.phase }], guard := Option.none }) ∧ ((!Go.Sx.conj [x1 == (0 : Nat), x2 == (0 : Nat), f == Bool.true]) = Bool.false → True)) ∧ (f = Bool.false → x2 < x3 ∧ x2 < x3 ∧ x4 < x3 ∧ x5 < x3 ∧ x1 < x3 ∧ ((!Go.Sx.conj [x2 * x2 % x3 % Go.Sx.M256 == Go.Proofs.Ytbfcccoeekonlaa.rhsN x3 x4 x5 x1 % Go.Sx.M256]) = Bool.true → Go.Sx.Stuck { dst := Option.some (8 : Nat), op := Go.Op.nilCheck (Go.Operand.tmp (7 : Nat)), type := (0 : Nat), pos := "hand.go:19", after := #[{ on := (1 : Nat), ground := Go.Ground.data }, { on := (0 : Nat), ground := Go.Ground.phase }, { on := (1 : Nat), ground := Go.Ground.phase }], guard := Option.none }) ∧ ((!Go.Sx.conj [x2 * x2 % x3 % Go.Sx.M256 == Go.Proofs.Ytbfcccoeekonlaa.rhsN x3 x4 x5 x1 % Go.Sx.M256]) = Bool.false → True))) := by kernel_rfl
-- END VC
-- VC vc_be HASH 370d9ef6fab6277d
theorem vc_be (m P A B N X Y : Nat) (F : Bool) (v : Option Addr) :
    Owes Try.prog cxBe [] 100 Try.f24 [sHand m v, sCv P A B N X Y F] (.tup []) =
    (let x1 : Bool := Decidable.decide (Go.Sx.cmpN P (3 : Nat) > (0 : Int)); let x2 : Nat := A % Go.Sx.M256; let x3 : Nat := m % Go.Sx.M256; let x4 : Nat := B % Go.Sx.M256; (x1 = Bool.true → x1 = Bool.true) ∧ (x1 = Bool.true → x1 = Bool.true) ∧ (x1 = Bool.true → x1 = Bool.true) ∧ (x1 = Bool.true → x1 = Bool.true) ∧ (x1 = Bool.true → x1 = Bool.true) ∧ ((!(x1 && (Go.Sx.limb P (0 : Nat)).tmod (4 : Int) == (3 : Int))) = Bool.true → Go.Sx.Stuck { dst := Option.some (8 : Nat), op := Go.Op.nilCheck (Go.Operand.tmp (7 : Nat)), type := (0 : Nat), pos := "hand.go:19", after := #[{ on := (1 : Nat), ground := Go.Ground.data }, { on := (0 : Nat), ground := Go.Ground.phase }, { on := (1 : Nat), ground := Go.Ground.phase }], guard := Option.none }) ∧ ((!(x1 && (Go.Sx.limb P (0 : Nat)).tmod (4 : Int) == (3 : Int))) = Bool.false → ((!Decidable.decide (Go.Sx.cmpN N (1 : Nat) > (0 : Int))) = Bool.true → Go.Sx.Stuck { dst := Option.some (8 : Nat), op := Go.Op.nilCheck (Go.Operand.tmp (7 : Nat)), type := (0 : Nat), pos := "hand.go:19", after := #[{ on := (1 : Nat), ground := Go.Ground.data }, { on := (0 : Nat), ground := Go.Ground.phase }, { on := (1 : Nat), ground := Go.Ground.phase }], guard := Option.none }) ∧ ((!Decidable.decide (Go.Sx.cmpN N (1 : Nat) > (0 : Int))) = Bool.false → x2 < x3 ∧ x4 < x3 ∧ ((!!Go.Sx.conj [Go.Proofs.Ytbfcccoeekonlaa.slopesN x3 x2 x4 % Go.Sx.M256 == (0 : Nat)]) = Bool.true → Go.Sx.Stuck { dst := Option.some (8 : Nat), op := Go.Op.nilCheck (Go.Operand.tmp (7 : Nat)), type := (0 : Nat), pos := "hand.go:19", after := #[{ on := (1 : Nat), ground := Go.Ground.data }, { on := (0 : Nat), ground := Go.Ground.phase }, { on := (1 : Nat), ground := Go.Ground.phase }], guard := Option.none }) ∧ ((!!Go.Sx.conj [Go.Proofs.Ytbfcccoeekonlaa.slopesN x3 x2 x4 % Go.Sx.M256 == (0 : Nat)]) = Bool.false → ((!!F) = Bool.true → Go.Sx.Stuck { dst := Option.some (8 : Nat), op := Go.Op.nilCheck (Go.Operand.tmp (7 : Nat)), type := (0 : Nat), pos := "hand.go:19", after := #[{ on := (1 : Nat), ground := Go.Ground.data }, { on := (0 : Nat), ground := Go.Ground.phase }, { on := (1 : Nat), ground := Go.Ground.phase }], guard := Option.none }) ∧ ((!!F) = Bool.false → x2 < x3 ∧ x4 < x3 ∧ Go.Proofs.Ytbfcccoeekonlaa.onP x3 x2 x4 (Go.Proofs.Ytbfcccoeekonlaa.red X Y F) ∧ True))))) := by kernel_rfl
-- END VC
-- VC vc_slope HASH b549eaebe7a84ed6
theorem vc_slope (m A x y z w : Nat) (f g : Bool) (v : Option Addr) :
    Owes Try.prog cxSlope [] 100 Try.f66 [sHand m v, sU A, sPt x y f, sPt z w g] (slopeG [[.u m], [.u A], [.u x, .u y, .b f], [.u z, .u w, .b g]]) =
    (let x1 : Nat := x % Go.Sx.M256; let x2 : Nat := z % Go.Sx.M256; let x3 : Nat := y % Go.Sx.M256; let x4 : Nat := w % Go.Sx.M256; let x5 : Nat := m % Go.Sx.M256; let x6 : Nat := x1 * x1 % x5 % Go.Sx.M256; let x7 : Nat := (x6 + (x6 + x6) % x5) % x5 % Go.Sx.M256; let x8 : Nat := A % Go.Sx.M256; let x9 : Nat := (x7 + x8) % x5 % Go.Sx.M256; let x10 : Nat := (x3 + x3) % x5 % Go.Sx.M256; let x11 : Nat := Go.Proofs.Ytbfcccoeekonlaa.slopeN x5 x8 (Go.Proofs.Ytbfcccoeekonlaa.red x y f) (Go.Proofs.Ytbfcccoeekonlaa.red z w g) % Go.Sx.M256; let x12 : Nat := (x4 + x5 - x3) % x5 % Go.Sx.M256; let x13 : Nat := (x2 + x5 - x1) % x5 % Go.Sx.M256; (Go.Sx.conj [x1 == x2, x3 == x4, f == g] = Bool.true → x1 < x5 ∧ x1 < x5 ∧ x6 < x5 ∧ x7 < x5 ∧ x8 < x5 ∧ x3 < x5 ∧ x9 < x5 ∧ x10 < x5 ∧ x10.gcd x5 = (1 : Nat) ∧ x9 * Go.Proofs.Ytbfcccoeekonlaa.invN x10 x5 % x5 % Go.Sx.M256 = x11 ∧ True) ∧ (Go.Sx.conj [x1 == x2, x3 == x4, f == g] = Bool.false → x4 < x5 ∧ x3 < x5 ∧ x2 < x5 ∧ x1 < x5 ∧ x12 < x5 ∧ x13 < x5 ∧ x13.gcd x5 = (1 : Nat) ∧ x12 * Go.Proofs.Ytbfcccoeekonlaa.invN x13 x5 % x5 % Go.Sx.M256 = x11 ∧ True)) := by kernel_rfl
-- END VC
-- VC vc_sumP HASH e34dd2d08acdd81c
theorem vc_sumP (m A x y z w : Nat) (f g : Bool) (v : Option Addr) :
    Owes Try.prog cxSumP [] 100 Try.f50 [sHand m v, sU A, sPt x y f, sPt z w g] (sumPG [[.u m], [.u A], [.u x, .u y, .b f], [.u z, .u w, .b g]]) =
    (let x1 : Nat := z % Go.Sx.M256; let x2 : Nat := m % Go.Sx.M256; let x3 : Nat := A % Go.Sx.M256; let x4 : Nat := (Go.Proofs.Ytbfcccoeekonlaa.csum x2 x3 (Go.Proofs.Ytbfcccoeekonlaa.red x y f) (Go.Proofs.Ytbfcccoeekonlaa.red z w g)).fst % Go.Sx.M256; let x5 : Nat := w % Go.Sx.M256; let x6 : Nat := (Go.Proofs.Ytbfcccoeekonlaa.csum x2 x3 (Go.Proofs.Ytbfcccoeekonlaa.red x y f) (Go.Proofs.Ytbfcccoeekonlaa.red z w g)).snd.fst % Go.Sx.M256; let x7 : Bool := (Go.Proofs.Ytbfcccoeekonlaa.csum x2 x3 (Go.Proofs.Ytbfcccoeekonlaa.red x y f) (Go.Proofs.Ytbfcccoeekonlaa.red z w g)).snd.snd; let x8 : Nat := x % Go.Sx.M256; let x9 : Nat := y % Go.Sx.M256; let x10 : Bool := Go.Sx.conj [x8 == x1]; let x11 : Nat := Go.Proofs.Ytbfcccoeekonlaa.slopeN x2 x3 (Go.Proofs.Ytbfcccoeekonlaa.red x y f) (Go.Proofs.Ytbfcccoeekonlaa.red z w g) % Go.Sx.M256; let x12 : Nat := x11 * x11 % x2 % Go.Sx.M256; let x13 : Nat := (x12 + x2 - x8) % x2 % Go.Sx.M256; let x14 : Nat := (x13 + x2 - x1) % x2 % Go.Sx.M256; let x15 : Nat := (x8 + x2 - x14) % x2 % Go.Sx.M256; let x16 : Nat := x11 * x15 % x2 % Go.Sx.M256; (f = Bool.true → x1 = x4 ∧ x5 = x6 ∧ g = x7 ∧ True) ∧ (f = Bool.false → (g = Bool.true → x8 = x4 ∧ x9 = x6 ∧ f = x7 ∧ True) ∧ (g = Bool.false → (x10 = Bool.true → x10 = Bool.true) ∧ (x10 = Bool.true → x10 = Bool.true) ∧ (x10 = Bool.true → x10 = Bool.true) ∧ (x10 = Bool.true → x10 = Bool.true) ∧ (x10 = Bool.true → x10 = Bool.true) ∧ (x10 = Bool.true → x9 < x2) ∧ (x10 = Bool.true → x5 < x2) ∧ (x10 = Bool.true → x10 = Bool.true) ∧ (x10 = Bool.true → x10 = Bool.true) ∧ (x10 = Bool.true → x10 = Bool.true) ∧ ((x10 && Go.Sx.conj [(x9 + x5) % x2 % Go.Sx.M256 == (0 : Nat)]) = Bool.true → (0 : Nat) = x4 ∧ (0 : Nat) = x6 ∧ Bool.true = x7 ∧ True) ∧ ((x10 && Go.Sx.conj [(x9 + x5) % x2 % Go.Sx.M256 == (0 : Nat)]) = Bool.false → x3 < x2 ∧ f = Bool.false ∧ g = Bool.false ∧ Go.Proofs.Ytbfcccoeekonlaa.inP x2 (Go.Proofs.Ytbfcccoeekonlaa.red x y f) ∧ Go.Proofs.Ytbfcccoeekonlaa.inP x2 (Go.Proofs.Ytbfcccoeekonlaa.red z w g) ∧ Go.Proofs.Ytbfcccoeekonlaa.slopeOK x2 (Go.Proofs.Ytbfcccoeekonlaa.red x y f) (Go.Proofs.Ytbfcccoeekonlaa.red z w g) ∧ x11 < x2 ∧ x11 < x2 ∧ x12 < x2 ∧ x8 < x2 ∧ x13 < x2 ∧ x1 < x2 ∧ x8 < x2 ∧ x14 < x2 ∧ x11 < x2 ∧ x15 < x2 ∧ x16 < x2 ∧ x9 < x2 ∧ x14 = x4 ∧ (x16 + x2 - x9) % x2 % Go.Sx.M256 = x6 ∧ Bool.false = x7 ∧ True)))) := by kernel_rfl
-- END VC
-- VC vc_told HASH 47556c5346772630
theorem vc_told (x y : Nat) (f : Bool) (e : Int) :
    Owes Try.prog Cx.none [] 100 Try.f46 [sPt x y f, sI .i64 e] (toldG [[.u x, .u y, .b f], [.i e]]) =
    (let x1 : Nat := x % Go.Sx.M256; let x2 : Nat := y % Go.Sx.M256; ((e != (0 : Int)) = Bool.true → ((0 : Nat) = x1 ∧ (0 : Nat) = x2 ∧ Bool.false = f ∧ True) ∧ e = (0 : Int)) ∧ ((e != (0 : Int)) = Bool.false → (x1 = x1 ∧ x2 = x2 ∧ f = f ∧ True) ∧ (0 : Int) = (0 : Int))) := by kernel_rfl
-- END VC
-- VC vc_isOdd HASH 644d845e84c4c840
theorem vc_isOdd (a : Nat) :
    Owes Try.prog Cx.none [] 100 Try.f44 [sU a] (oddG a) =
    (((Go.Sx.limb a (0 : Nat)).tmod (2 : Int) == (1 : Int)) = (a % Go.Sx.M256 % (2 : Nat) == (1 : Nat))) := by kernel_rfl
-- END VC
-- VC vc_far HASH f56beee36032bea9
theorem vc_far  :
    Owes Try.prog Cx.none [] 100 Try.f49 [] farG =
    ((0 : Nat) = (0 : Nat) ∧ (0 : Nat) = (0 : Nat) ∧ Bool.true = Bool.true ∧ True) := by kernel_rfl
-- END VC
-- VC vc_cAdd HASH 63bd5dba45798acc
theorem vc_cAdd (P A B N X Y x y z w : Nat) (F f g : Bool) :
    Owes Try.prog cxCAdd [] 100 Try.f31 [sCv P A B N X Y F, sPt x y f, sPt z w g] (cAddG [[.u P, .u A, .u B, .u N, .u X, .u Y, .b F], [.u x, .u y, .b f], [.u z, .u w, .b g]]) =
    (let x1 : Nat := P % Go.Sx.M256; let x2 : Nat := A % Go.Sx.M256; let x3 : Nat := B % Go.Sx.M256; let x4 : Nat := (Go.Proofs.Ytbfcccoeekonlaa.csum x1 x2 (Go.Proofs.Ytbfcccoeekonlaa.red x y f) (Go.Proofs.Ytbfcccoeekonlaa.red z w g)).fst % Go.Sx.M256; let x5 : Nat := (Go.Proofs.Ytbfcccoeekonlaa.csum x1 x2 (Go.Proofs.Ytbfcccoeekonlaa.red x y f) (Go.Proofs.Ytbfcccoeekonlaa.red z w g)).snd.fst % Go.Sx.M256; let x6 : Bool := (Go.Proofs.Ytbfcccoeekonlaa.csum x1 x2 (Go.Proofs.Ytbfcccoeekonlaa.red x y f) (Go.Proofs.Ytbfcccoeekonlaa.red z w g)).snd.snd; x1 = x1 ∧ Go.Proofs.Ytbfcccoeekonlaa.goodP x1 x2 x3 (N % Go.Sx.M256) (Go.Proofs.Ytbfcccoeekonlaa.red X Y F) ∧ x2 < x1 ∧ x3 < x1 ∧ Go.Proofs.Ytbfcccoeekonlaa.onP x1 x2 x3 (Go.Proofs.Ytbfcccoeekonlaa.red x y f) ∧ x2 < x1 ∧ x3 < x1 ∧ Go.Proofs.Ytbfcccoeekonlaa.onP x1 x2 x3 (Go.Proofs.Ytbfcccoeekonlaa.red z w g) ∧ Go.Proofs.Ytbfcccoeekonlaa.sumOK x1 x2 (Go.Proofs.Ytbfcccoeekonlaa.red x y f) (Go.Proofs.Ytbfcccoeekonlaa.red z w g) ∧ (0 : Int) = (0 : Int) ∧ (x4 = x4 ∧ x5 = x5 ∧ x6 = x6 ∧ True) ∧ (0 : Int) = (0 : Int)) := by kernel_rfl
-- END VC
-- VC vc_cOn HASH 6c4cf40b4f3c8c14
theorem vc_cOn (P A B N X Y x y : Nat) (F f : Bool) :
    Owes Try.prog cxCOn [] 100 Try.f22 [sCv P A B N X Y F, sPt x y f] (cOnG [[.u P, .u A, .u B, .u N, .u X, .u Y, .b F], [.u x, .u y, .b f]]) =
    (let x1 : Nat := P % Go.Sx.M256; let x2 : Nat := A % Go.Sx.M256; let x3 : Nat := B % Go.Sx.M256; let x4 : Nat := x % Go.Sx.M256; let x5 : Nat := y % Go.Sx.M256; let x6 : Int := Go.Proofs.Ytbfcccoeekonlaa.onE x1 x2 x3 (Go.Proofs.Ytbfcccoeekonlaa.red x y f); x1 = x1 ∧ Go.Proofs.Ytbfcccoeekonlaa.goodP x1 x2 x3 (N % Go.Sx.M256) (Go.Proofs.Ytbfcccoeekonlaa.red X Y F) ∧ (f = Bool.true → ((!Go.Sx.conj [x4 == (0 : Nat), x5 == (0 : Nat), f == Bool.true]) = Bool.true → (16 : Int) = x6) ∧ ((!Go.Sx.conj [x4 == (0 : Nat), x5 == (0 : Nat), f == Bool.true]) = Bool.false → (0 : Int) = x6)) ∧ (f = Bool.false → x5 < x1 ∧ x5 < x1 ∧ x2 < x1 ∧ x3 < x1 ∧ x4 < x1 ∧ ((!Go.Sx.conj [x5 * x5 % x1 % Go.Sx.M256 == Go.Proofs.Ytbfcccoeekonlaa.rhsN x1 x2 x3 x4 % Go.Sx.M256]) = Bool.true → (16 : Int) = x6) ∧ ((!Go.Sx.conj [x5 * x5 % x1 % Go.Sx.M256 == Go.Proofs.Ytbfcccoeekonlaa.rhsN x1 x2 x3 x4 % Go.Sx.M256]) = Bool.false → (0 : Int) = x6))) := by kernel_rfl
-- END VC
-- VC vc_cMult HASH 3f2358f69f6c91b1
theorem vc_cMult (P A B N X Y k x y : Nat) (F f : Bool) :
    Owes Try.prog cxCMult [(7, .inv (invMult P A B N X Y F k x y f))] 100 Try.f30 [sCv P A B N X Y F, sU k, sPt x y f] (cMultG [[.u P, .u A, .u B, .u N, .u X, .u Y, .b F], [.u k], [.u x, .u y, .b f]]) =
    (let x1 : Nat := P % Go.Sx.M256; let x2 : Nat := A % Go.Sx.M256; let x3 : Nat := B % Go.Sx.M256; let x4 : Nat := N % Go.Sx.M256; let x5 : Nat := k % Go.Sx.M256; let x6 : Nat := X % Go.Sx.M256; let x7 : Nat := Y % Go.Sx.M256; let x8 : Nat := x % Go.Sx.M256; let x9 : Nat := y % Go.Sx.M256; x1 = x1 ∧ Go.Proofs.Ytbfcccoeekonlaa.goodP x1 x2 x3 x4 (Go.Proofs.Ytbfcccoeekonlaa.red X Y F) ∧ x2 < x1 ∧ x3 < x1 ∧ Go.Proofs.Ytbfcccoeekonlaa.onP x1 x2 x3 (Go.Proofs.Ytbfcccoeekonlaa.red x y f) ∧ (∀ (y_1 : Nat), Go.Sx.closedB (Go.Sx.slotsAt (57 : Nat) [((3 : Nat), Go.Sx.SV.one (Go.Sx.SA.sc (Go.Sx.SC.ptr (0 : Nat) (0 : Nat)))), ((4 : Nat), Go.Sx.SV.one (Go.Sx.SA.sc (Go.Sx.SC.ptr (1 : Nat) (0 : Nat)))), ((5 : Nat), Go.Sx.SV.one (Go.Sx.SA.sc (Go.Sx.SC.ptr (2 : Nat) (0 : Nat)))), ((6 : Nat), Go.Sx.SV.one (Go.Sx.SA.sc (Go.Sx.SC.ptr (3 : Nat) (0 : Nat)))), ((8 : Nat), Go.Sx.SV.one (Go.Sx.SA.sc (Go.Sx.SC.ptr (4 : Nat) (0 : Nat)))), ((9 : Nat), Go.Sx.SV.one (Go.Sx.SA.sc (Go.Sx.SC.ptr (5 : Nat) (0 : Nat)))), ((10 : Nat), Go.Sx.SV.one (Go.Sx.SA.sc (Go.Sx.SC.ptr (6 : Nat) (0 : Nat)))), ((11 : Nat), Go.Sx.SV.one (Go.Sx.sI Go.IntKind.i64 ((255 : Int) - (↑y_1 : Int))))]) [Go.Sx.SO.cells (30 : Go.TypeId) [Go.Sx.SK.u P, Go.Sx.SK.u A, Go.Sx.SK.u B, Go.Sx.SK.u N, Go.Sx.SK.u X, Go.Sx.SK.u Y, Go.Sx.SK.c (Go.Sx.SC.val (Go.Value.bool F))] (0 : Nat), Go.Sx.SO.cells (26 : Go.TypeId) [Go.Sx.SK.u k] (0 : Nat), Go.Sx.SO.cells (28 : Go.TypeId) [Go.Sx.SK.u x, Go.Sx.SK.u y, Go.Sx.SK.c (Go.Sx.SC.val (Go.Value.bool f))] (0 : Nat), Go.Sx.SO.cells (28 : Go.TypeId) (Go.Proofs.Ytbfcccoeekonlaa.zeroU ++ Go.Proofs.Ytbfcccoeekonlaa.zeroU ++ [Go.Sx.SK.c (Go.Sx.SC.bit Bool.false)]) (0 : Nat), Go.Sx.SO.cells (36 : Go.TypeId) [Go.Sx.SK.c (Go.Sx.SC.num Go.IntKind.i64 (0 : Int))] (0 : Nat), Go.Sx.SO.cells (61 : Go.TypeId) [Go.Sx.SK.u P, Go.Sx.SK.c (Go.Sx.SC.ptr (4 : Nat) (0 : Nat))] (0 : Nat), Go.Sx.SO.cells (28 : Go.TypeId) [Go.Sx.SK.u (Go.Proofs.Ytbfcccoeekonlaa.cmulR x1 x2 x5 (Go.Proofs.Ytbfcccoeekonlaa.red x y f) y_1).fst, Go.Sx.SK.u (Go.Proofs.Ytbfcccoeekonlaa.cmulR x1 x2 x5 (Go.Proofs.Ytbfcccoeekonlaa.red x y f) y_1).snd.fst, Go.Sx.SK.c (Go.Sx.SC.val (Go.Value.bool (Go.Proofs.Ytbfcccoeekonlaa.cmulR x1 x2 x5 (Go.Proofs.Ytbfcccoeekonlaa.red x y f) y_1).snd.snd))] (0 : Nat)] = Bool.true) ∧ ∃ (y_1 : Nat), y_1 ≤ (256 : Nat) ∧ (255 : Int) = (255 : Int) - (↑y_1 : Int) ∧ x1 = x1 ∧ x2 = x2 ∧ x3 = x3 ∧ x4 = x4 ∧ x6 = x6 ∧ x7 = x7 ∧ F = F ∧ (0 : Nat) = (0 : Nat) ∧ x5 = x5 ∧ (0 : Nat) = (0 : Nat) ∧ x8 = x8 ∧ x9 = x9 ∧ f = f ∧ (0 : Nat) = (0 : Nat) ∧ (0 : Nat) = (0 : Nat) ∧ (0 : Nat) = (0 : Nat) ∧ x1 = x1 ∧ (0 : Nat) = (0 : Nat) ∧ (0 : Nat) = (Go.Proofs.Ytbfcccoeekonlaa.cmulR x1 x2 x5 (Go.Proofs.Ytbfcccoeekonlaa.red x y f) y_1).fst % Go.Sx.M256 ∧ (0 : Nat) = (Go.Proofs.Ytbfcccoeekonlaa.cmulR x1 x2 x5 (Go.Proofs.Ytbfcccoeekonlaa.red x y f) y_1).snd.fst % Go.Sx.M256 ∧ Bool.true = (Go.Proofs.Ytbfcccoeekonlaa.cmulR x1 x2 x5 (Go.Proofs.Ytbfcccoeekonlaa.red x y f) y_1).snd.snd ∧ (0 : Nat) = (0 : Nat) ∧ ∀ (y_2 : Nat), y_2 ≤ (256 : Nat) → (Decidable.decide ((255 : Int) - (↑y_2 : Int) ≥ (0 : Int)) = Bool.true → Decidable.decide ((255 : Int) - (↑y_2 : Int) ≥ (0 : Int)) = Bool.true) ∧ (Decidable.decide ((255 : Int) - (↑y_2 : Int) ≥ (0 : Int)) = Bool.true → Decidable.decide ((255 : Int) - (↑y_2 : Int) ≥ (0 : Int)) = Bool.true) ∧ ((Decidable.decide ((255 : Int) - (↑y_2 : Int) ≥ (0 : Int)) && (0 : Int) == (0 : Int)) = Bool.true → Go.Proofs.Ytbfcccoeekonlaa.sumOK x1 x2 (Go.Proofs.Ytbfcccoeekonlaa.red (Go.Proofs.Ytbfcccoeekonlaa.cmulR x1 x2 x5 (Go.Proofs.Ytbfcccoeekonlaa.red x y f) y_2).fst (Go.Proofs.Ytbfcccoeekonlaa.cmulR x1 x2 x5 (Go.Proofs.Ytbfcccoeekonlaa.red x y f) y_2).snd.fst (Go.Proofs.Ytbfcccoeekonlaa.cmulR x1 x2 x5 (Go.Proofs.Ytbfcccoeekonlaa.red x y f) y_2).snd.snd) (Go.Proofs.Ytbfcccoeekonlaa.red (Go.Proofs.Ytbfcccoeekonlaa.cmulR x1 x2 x5 (Go.Proofs.Ytbfcccoeekonlaa.red x y f) y_2).fst (Go.Proofs.Ytbfcccoeekonlaa.cmulR x1 x2 x5 (Go.Proofs.Ytbfcccoeekonlaa.red x y f) y_2).snd.fst (Go.Proofs.Ytbfcccoeekonlaa.cmulR x1 x2 x5 (Go.Proofs.Ytbfcccoeekonlaa.red x y f) y_2).snd.snd) ∧ ((0 : Int) ≤ Go.IntKind.i64.wrap (((255 : Int) - (↑y_2 : Int)).tdiv (64 : Int)) ∧ Go.IntKind.i64.wrap (((255 : Int) - (↑y_2 : Int)).tdiv (64 : Int)) < (4 : Int)) ∧ ((0 : Int) ≤ Go.IntKind.i64.wrap (((255 : Int) - (↑y_2 : Int)).tdiv (64 : Int)) ∧ Go.IntKind.i64.wrap (((255 : Int) - (↑y_2 : Int)).tdiv (64 : Int)) < (4 : Int)) ∧ (0 : Int) ≤ ((255 : Int) - (↑y_2 : Int)).tmod (64 : Int) ∧ ((Go.IntKind.u64.wrap (↑(BitVec.ofInt (64 : Nat) ((Go.Sx.limb k (Go.IntKind.i64.wrap (((255 : Int) - (↑y_2 : Int)).tdiv (64 : Int))).toNat).fdiv ((2 : Int) ^ Min.min (((255 : Int) - (↑y_2 : Int)).tmod (64 : Int)).toNat (64 : Nat))) &&& BitVec.ofInt (64 : Nat) (1 : Int)).toNat : Int) == (1 : Int)) = Bool.true → Go.Proofs.Ytbfcccoeekonlaa.sumOK x1 x2 (Go.Proofs.Ytbfcccoeekonlaa.red (Go.Proofs.Ytbfcccoeekonlaa.csum x1 x2 (Go.Proofs.Ytbfcccoeekonlaa.red (Go.Proofs.Ytbfcccoeekonlaa.cmulR x1 x2 x5 (Go.Proofs.Ytbfcccoeekonlaa.red x y f) y_2).fst (Go.Proofs.Ytbfcccoeekonlaa.cmulR x1 x2 x5 (Go.Proofs.Ytbfcccoeekonlaa.red x y f) y_2).snd.fst (Go.Proofs.Ytbfcccoeekonlaa.cmulR x1 x2 x5 (Go.Proofs.Ytbfcccoeekonlaa.red x y f) y_2).snd.snd) (Go.Proofs.Ytbfcccoeekonlaa.red (Go.Proofs.Ytbfcccoeekonlaa.cmulR x1 x2 x5 (Go.Proofs.Ytbfcccoeekonlaa.red x y f) y_2).fst (Go.Proofs.Ytbfcccoeekonlaa.cmulR x1 x2 x5 (Go.Proofs.Ytbfcccoeekonlaa.red x y f) y_2).snd.fst (Go.Proofs.Ytbfcccoeekonlaa.cmulR x1 x2 x5 (Go.Proofs.Ytbfcccoeekonlaa.red x y f) y_2).snd.snd)).fst (Go.Proofs.Ytbfcccoeekonlaa.csum x1 x2 (Go.Proofs.Ytbfcccoeekonlaa.red (Go.Proofs.Ytbfcccoeekonlaa.cmulR x1 x2 x5 (Go.Proofs.Ytbfcccoeekonlaa.red x y f) y_2).fst (Go.Proofs.Ytbfcccoeekonlaa.cmulR x1 x2 x5 (Go.Proofs.Ytbfcccoeekonlaa.red x y f) y_2).snd.fst (Go.Proofs.Ytbfcccoeekonlaa.cmulR x1 x2 x5 (Go.Proofs.Ytbfcccoeekonlaa.red x y f) y_2).snd.snd) (Go.Proofs.Ytbfcccoeekonlaa.red (Go.Proofs.Ytbfcccoeekonlaa.cmulR x1 x2 x5 (Go.Proofs.Ytbfcccoeekonlaa.red x y f) y_2).fst (Go.Proofs.Ytbfcccoeekonlaa.cmulR x1 x2 x5 (Go.Proofs.Ytbfcccoeekonlaa.red x y f) y_2).snd.fst (Go.Proofs.Ytbfcccoeekonlaa.cmulR x1 x2 x5 (Go.Proofs.Ytbfcccoeekonlaa.red x y f) y_2).snd.snd)).snd.fst (Go.Proofs.Ytbfcccoeekonlaa.csum x1 x2 (Go.Proofs.Ytbfcccoeekonlaa.red (Go.Proofs.Ytbfcccoeekonlaa.cmulR x1 x2 x5 (Go.Proofs.Ytbfcccoeekonlaa.red x y f) y_2).fst (Go.Proofs.Ytbfcccoeekonlaa.cmulR x1 x2 x5 (Go.Proofs.Ytbfcccoeekonlaa.red x y f) y_2).snd.fst (Go.Proofs.Ytbfcccoeekonlaa.cmulR x1 x2 x5 (Go.Proofs.Ytbfcccoeekonlaa.red x y f) y_2).snd.snd) (Go.Proofs.Ytbfcccoeekonlaa.red (Go.Proofs.Ytbfcccoeekonlaa.cmulR x1 x2 x5 (Go.Proofs.Ytbfcccoeekonlaa.red x y f) y_2).fst (Go.Proofs.Ytbfcccoeekonlaa.cmulR x1 x2 x5 (Go.Proofs.Ytbfcccoeekonlaa.red x y f) y_2).snd.fst (Go.Proofs.Ytbfcccoeekonlaa.cmulR x1 x2 x5 (Go.Proofs.Ytbfcccoeekonlaa.red x y f) y_2).snd.snd)).snd.snd) (Go.Proofs.Ytbfcccoeekonlaa.red x y f) ∧ ∃ (y' : Nat), y' ≤ (256 : Nat) ∧ Go.IntKind.i64.wrap ((255 : Int) - (↑y_2 : Int) - (1 : Int)) = (255 : Int) - (↑y' : Int) ∧ x1 = x1 ∧ x2 = x2 ∧ x3 = x3 ∧ x4 = x4 ∧ x6 = x6 ∧ x7 = x7 ∧ F = F ∧ (0 : Nat) = (0 : Nat) ∧ x5 = x5 ∧ (0 : Nat) = (0 : Nat) ∧ x8 = x8 ∧ x9 = x9 ∧ f = f ∧ (0 : Nat) = (0 : Nat) ∧ (0 : Nat) = (0 : Nat) ∧ (0 : Nat) = (0 : Nat) ∧ x1 = x1 ∧ (0 : Nat) = (0 : Nat) ∧ (Go.Proofs.Ytbfcccoeekonlaa.csum x1 x2 (Go.Proofs.Ytbfcccoeekonlaa.red (Go.Proofs.Ytbfcccoeekonlaa.csum x1 x2 (Go.Proofs.Ytbfcccoeekonlaa.red (Go.Proofs.Ytbfcccoeekonlaa.cmulR x1 x2 x5 (Go.Proofs.Ytbfcccoeekonlaa.red x y f) y_2).fst (Go.Proofs.Ytbfcccoeekonlaa.cmulR x1 x2 x5 (Go.Proofs.Ytbfcccoeekonlaa.red x y f) y_2).snd.fst (Go.Proofs.Ytbfcccoeekonlaa.cmulR x1 x2 x5 (Go.Proofs.Ytbfcccoeekonlaa.red x y f) y_2).snd.snd) (Go.Proofs.Ytbfcccoeekonlaa.red (Go.Proofs.Ytbfcccoeekonlaa.cmulR x1 x2 x5 (Go.Proofs.Ytbfcccoeekonlaa.red x y f) y_2).fst (Go.Proofs.Ytbfcccoeekonlaa.cmulR x1 x2 x5 (Go.Proofs.Ytbfcccoeekonlaa.red x y f) y_2).snd.fst (Go.Proofs.Ytbfcccoeekonlaa.cmulR x1 x2 x5 (Go.Proofs.Ytbfcccoeekonlaa.red x y f) y_2).snd.snd)).fst (Go.Proofs.Ytbfcccoeekonlaa.csum x1 x2 (Go.Proofs.Ytbfcccoeekonlaa.red (Go.Proofs.Ytbfcccoeekonlaa.cmulR x1 x2 x5 (Go.Proofs.Ytbfcccoeekonlaa.red x y f) y_2).fst (Go.Proofs.Ytbfcccoeekonlaa.cmulR x1 x2 x5 (Go.Proofs.Ytbfcccoeekonlaa.red x y f) y_2).snd.fst (Go.Proofs.Ytbfcccoeekonlaa.cmulR x1 x2 x5 (Go.Proofs.Ytbfcccoeekonlaa.red x y f) y_2).snd.snd) (Go.Proofs.Ytbfcccoeekonlaa.red (Go.Proofs.Ytbfcccoeekonlaa.cmulR x1 x2 x5 (Go.Proofs.Ytbfcccoeekonlaa.red x y f) y_2).fst (Go.Proofs.Ytbfcccoeekonlaa.cmulR x1 x2 x5 (Go.Proofs.Ytbfcccoeekonlaa.red x y f) y_2).snd.fst (Go.Proofs.Ytbfcccoeekonlaa.cmulR x1 x2 x5 (Go.Proofs.Ytbfcccoeekonlaa.red x y f) y_2).snd.snd)).snd.fst (Go.Proofs.Ytbfcccoeekonlaa.csum x1 x2 (Go.Proofs.Ytbfcccoeekonlaa.red (Go.Proofs.Ytbfcccoeekonlaa.cmulR x1 x2 x5 (Go.Proofs.Ytbfcccoeekonlaa.red x y f) y_2).fst (Go.Proofs.Ytbfcccoeekonlaa.cmulR x1 x2 x5 (Go.Proofs.Ytbfcccoeekonlaa.red x y f) y_2).snd.fst (Go.Proofs.Ytbfcccoeekonlaa.cmulR x1 x2 x5 (Go.Proofs.Ytbfcccoeekonlaa.red x y f) y_2).snd.snd) (Go.Proofs.Ytbfcccoeekonlaa.red (Go.Proofs.Ytbfcccoeekonlaa.cmulR x1 x2 x5 (Go.Proofs.Ytbfcccoeekonlaa.red x y f) y_2).fst (Go.Proofs.Ytbfcccoeekonlaa.cmulR x1 x2 x5 (Go.Proofs.Ytbfcccoeekonlaa.red x y f) y_2).snd.fst (Go.Proofs.Ytbfcccoeekonlaa.cmulR x1 x2 x5 (Go.Proofs.Ytbfcccoeekonlaa.red x y f) y_2).snd.snd)).snd.snd) (Go.Proofs.Ytbfcccoeekonlaa.red x y f)).fst % Go.Sx.M256 = (Go.Proofs.Ytbfcccoeekonlaa.cmulR x1 x2 x5 (Go.Proofs.Ytbfcccoeekonlaa.red x y f) y').fst % Go.Sx.M256 ∧ (Go.Proofs.Ytbfcccoeekonlaa.csum x1 x2 (Go.Proofs.Ytbfcccoeekonlaa.red (Go.Proofs.Ytbfcccoeekonlaa.csum x1 x2 (Go.Proofs.Ytbfcccoeekonlaa.red (Go.Proofs.Ytbfcccoeekonlaa.cmulR x1 x2 x5 (Go.Proofs.Ytbfcccoeekonlaa.red x y f) y_2).fst (Go.Proofs.Ytbfcccoeekonlaa.cmulR x1 x2 x5 (Go.Proofs.Ytbfcccoeekonlaa.red x y f) y_2).snd.fst (Go.Proofs.Ytbfcccoeekonlaa.cmulR x1 x2 x5 (Go.Proofs.Ytbfcccoeekonlaa.red x y f) y_2).snd.snd) (Go.Proofs.Ytbfcccoeekonlaa.red (Go.Proofs.Ytbfcccoeekonlaa.cmulR x1 x2 x5 (Go.Proofs.Ytbfcccoeekonlaa.red x y f) y_2).fst (Go.Proofs.Ytbfcccoeekonlaa.cmulR x1 x2 x5 (Go.Proofs.Ytbfcccoeekonlaa.red x y f) y_2).snd.fst (Go.Proofs.Ytbfcccoeekonlaa.cmulR x1 x2 x5 (Go.Proofs.Ytbfcccoeekonlaa.red x y f) y_2).snd.snd)).fst (Go.Proofs.Ytbfcccoeekonlaa.csum x1 x2 (Go.Proofs.Ytbfcccoeekonlaa.red (Go.Proofs.Ytbfcccoeekonlaa.cmulR x1 x2 x5 (Go.Proofs.Ytbfcccoeekonlaa.red x y f) y_2).fst (Go.Proofs.Ytbfcccoeekonlaa.cmulR x1 x2 x5 (Go.Proofs.Ytbfcccoeekonlaa.red x y f) y_2).snd.fst (Go.Proofs.Ytbfcccoeekonlaa.cmulR x1 x2 x5 (Go.Proofs.Ytbfcccoeekonlaa.red x y f) y_2).snd.snd) (Go.Proofs.Ytbfcccoeekonlaa.red (Go.Proofs.Ytbfcccoeekonlaa.cmulR x1 x2 x5 (Go.Proofs.Ytbfcccoeekonlaa.red x y f) y_2).fst (Go.Proofs.Ytbfcccoeekonlaa.cmulR x1 x2 x5 (Go.Proofs.Ytbfcccoeekonlaa.red x y f) y_2).snd.fst (Go.Proofs.Ytbfcccoeekonlaa.cmulR x1 x2 x5 (Go.Proofs.Ytbfcccoeekonlaa.red x y f) y_2).snd.snd)).snd.fst (Go.Proofs.Ytbfcccoeekonlaa.csum x1 x2 (Go.Proofs.Ytbfcccoeekonlaa.red (Go.Proofs.Ytbfcccoeekonlaa.cmulR x1 x2 x5 (Go.Proofs.Ytbfcccoeekonlaa.red x y f) y_2).fst (Go.Proofs.Ytbfcccoeekonlaa.cmulR x1 x2 x5 (Go.Proofs.Ytbfcccoeekonlaa.red x y f) y_2).snd.fst (Go.Proofs.Ytbfcccoeekonlaa.cmulR x1 x2 x5 (Go.Proofs.Ytbfcccoeekonlaa.red x y f) y_2).snd.snd) (Go.Proofs.Ytbfcccoeekonlaa.red (Go.Proofs.Ytbfcccoeekonlaa.cmulR x1 x2 x5 (Go.Proofs.Ytbfcccoeekonlaa.red x y f) y_2).fst (Go.Proofs.Ytbfcccoeekonlaa.cmulR x1 x2 x5 (Go.Proofs.Ytbfcccoeekonlaa.red x y f) y_2).snd.fst (Go.Proofs.Ytbfcccoeekonlaa.cmulR x1 x2 x5 (Go.Proofs.Ytbfcccoeekonlaa.red x y f) y_2).snd.snd)).snd.snd) (Go.Proofs.Ytbfcccoeekonlaa.red x y f)).snd.fst % Go.Sx.M256 = (Go.Proofs.Ytbfcccoeekonlaa.cmulR x1 x2 x5 (Go.Proofs.Ytbfcccoeekonlaa.red x y f) y').snd.fst % Go.Sx.M256 ∧ (Go.Proofs.Ytbfcccoeekonlaa.csum x1 x2 (Go.Proofs.Ytbfcccoeekonlaa.red (Go.Proofs.Ytbfcccoeekonlaa.csum x1 x2 (Go.Proofs.Ytbfcccoeekonlaa.red (Go.Proofs.Ytbfcccoeekonlaa.cmulR x1 x2 x5 (Go.Proofs.Ytbfcccoeekonlaa.red x y f) y_2).fst (Go.Proofs.Ytbfcccoeekonlaa.cmulR x1 x2 x5 (Go.Proofs.Ytbfcccoeekonlaa.red x y f) y_2).snd.fst (Go.Proofs.Ytbfcccoeekonlaa.cmulR x1 x2 x5 (Go.Proofs.Ytbfcccoeekonlaa.red x y f) y_2).snd.snd) (Go.Proofs.Ytbfcccoeekonlaa.red (Go.Proofs.Ytbfcccoeekonlaa.cmulR x1 x2 x5 (Go.Proofs.Ytbfcccoeekonlaa.red x y f) y_2).fst (Go.Proofs.Ytbfcccoeekonlaa.cmulR x1 x2 x5 (Go.Proofs.Ytbfcccoeekonlaa.red x y f) y_2).snd.fst (Go.Proofs.Ytbfcccoeekonlaa.cmulR x1 x2 x5 (Go.Proofs.Ytbfcccoeekonlaa.red x y f) y_2).snd.snd)).fst (Go.Proofs.Ytbfcccoeekonlaa.csum x1 x2 (Go.Proofs.Ytbfcccoeekonlaa.red (Go.Proofs.Ytbfcccoeekonlaa.cmulR x1 x2 x5 (Go.Proofs.Ytbfcccoeekonlaa.red x y f) y_2).fst (Go.Proofs.Ytbfcccoeekonlaa.cmulR x1 x2 x5 (Go.Proofs.Ytbfcccoeekonlaa.red x y f) y_2).snd.fst (Go.Proofs.Ytbfcccoeekonlaa.cmulR x1 x2 x5 (Go.Proofs.Ytbfcccoeekonlaa.red x y f) y_2).snd.snd) (Go.Proofs.Ytbfcccoeekonlaa.red (Go.Proofs.Ytbfcccoeekonlaa.cmulR x1 x2 x5 (Go.Proofs.Ytbfcccoeekonlaa.red x y f) y_2).fst (Go.Proofs.Ytbfcccoeekonlaa.cmulR x1 x2 x5 (Go.Proofs.Ytbfcccoeekonlaa.red x y f) y_2).snd.fst (Go.Proofs.Ytbfcccoeekonlaa.cmulR x1 x2 x5 (Go.Proofs.Ytbfcccoeekonlaa.red x y f) y_2).snd.snd)).snd.fst (Go.Proofs.Ytbfcccoeekonlaa.csum x1 x2 (Go.Proofs.Ytbfcccoeekonlaa.red (Go.Proofs.Ytbfcccoeekonlaa.cmulR x1 x2 x5 (Go.Proofs.Ytbfcccoeekonlaa.red x y f) y_2).fst (Go.Proofs.Ytbfcccoeekonlaa.cmulR x1 x2 x5 (Go.Proofs.Ytbfcccoeekonlaa.red x y f) y_2).snd.fst (Go.Proofs.Ytbfcccoeekonlaa.cmulR x1 x2 x5 (Go.Proofs.Ytbfcccoeekonlaa.red x y f) y_2).snd.snd) (Go.Proofs.Ytbfcccoeekonlaa.red (Go.Proofs.Ytbfcccoeekonlaa.cmulR x1 x2 x5 (Go.Proofs.Ytbfcccoeekonlaa.red x y f) y_2).fst (Go.Proofs.Ytbfcccoeekonlaa.cmulR x1 x2 x5 (Go.Proofs.Ytbfcccoeekonlaa.red x y f) y_2).snd.fst (Go.Proofs.Ytbfcccoeekonlaa.cmulR x1 x2 x5 (Go.Proofs.Ytbfcccoeekonlaa.red x y f) y_2).snd.snd)).snd.snd) (Go.Proofs.Ytbfcccoeekonlaa.red x y f)).snd.snd = (Go.Proofs.Ytbfcccoeekonlaa.cmulR x1 x2 x5 (Go.Proofs.Ytbfcccoeekonlaa.red x y f) y').snd.snd ∧ (0 : Nat) = (0 : Nat) ∧ (256 : Nat) - y' < (256 : Nat) - y_2) ∧ ((Go.IntKind.u64.wrap (↑(BitVec.ofInt (64 : Nat) ((Go.Sx.limb k (Go.IntKind.i64.wrap (((255 : Int) - (↑y_2 : Int)).tdiv (64 : Int))).toNat).fdiv ((2 : Int) ^ Min.min (((255 : Int) - (↑y_2 : Int)).tmod (64 : Int)).toNat (64 : Nat))) &&& BitVec.ofInt (64 : Nat) (1 : Int)).toNat : Int) == (1 : Int)) = Bool.false → ∃ (y' : Nat), y' ≤ (256 : Nat) ∧ Go.IntKind.i64.wrap ((255 : Int) - (↑y_2 : Int) - (1 : Int)) = (255 : Int) - (↑y' : Int) ∧ x1 = x1 ∧ x2 = x2 ∧ x3 = x3 ∧ x4 = x4 ∧ x6 = x6 ∧ x7 = x7 ∧ F = F ∧ (0 : Nat) = (0 : Nat) ∧ x5 = x5 ∧ (0 : Nat) = (0 : Nat) ∧ x8 = x8 ∧ x9 = x9 ∧ f = f ∧ (0 : Nat) = (0 : Nat) ∧ (0 : Nat) = (0 : Nat) ∧ (0 : Nat) = (0 : Nat) ∧ x1 = x1 ∧ (0 : Nat) = (0 : Nat) ∧ (Go.Proofs.Ytbfcccoeekonlaa.csum x1 x2 (Go.Proofs.Ytbfcccoeekonlaa.red (Go.Proofs.Ytbfcccoeekonlaa.cmulR x1 x2 x5 (Go.Proofs.Ytbfcccoeekonlaa.red x y f) y_2).fst (Go.Proofs.Ytbfcccoeekonlaa.cmulR x1 x2 x5 (Go.Proofs.Ytbfcccoeekonlaa.red x y f) y_2).snd.fst (Go.Proofs.Ytbfcccoeekonlaa.cmulR x1 x2 x5 (Go.Proofs.Ytbfcccoeekonlaa.red x y f) y_2).snd.snd) (Go.Proofs.Ytbfcccoeekonlaa.red (Go.Proofs.Ytbfcccoeekonlaa.cmulR x1 x2 x5 (Go.Proofs.Ytbfcccoeekonlaa.red x y f) y_2).fst (Go.Proofs.Ytbfcccoeekonlaa.cmulR x1 x2 x5 (Go.Proofs.Ytbfcccoeekonlaa.red x y f) y_2).snd.fst (Go.Proofs.Ytbfcccoeekonlaa.cmulR x1 x2 x5 (Go.Proofs.Ytbfcccoeekonlaa.red x y f) y_2).snd.snd)).fst % Go.Sx.M256 = (Go.Proofs.Ytbfcccoeekonlaa.cmulR x1 x2 x5 (Go.Proofs.Ytbfcccoeekonlaa.red x y f) y').fst % Go.Sx.M256 ∧ (Go.Proofs.Ytbfcccoeekonlaa.csum x1 x2 (Go.Proofs.Ytbfcccoeekonlaa.red (Go.Proofs.Ytbfcccoeekonlaa.cmulR x1 x2 x5 (Go.Proofs.Ytbfcccoeekonlaa.red x y f) y_2).fst (Go.Proofs.Ytbfcccoeekonlaa.cmulR x1 x2 x5 (Go.Proofs.Ytbfcccoeekonlaa.red x y f) y_2).snd.fst (Go.Proofs.Ytbfcccoeekonlaa.cmulR x1 x2 x5 (Go.Proofs.Ytbfcccoeekonlaa.red x y f) y_2).snd.snd) (Go.Proofs.Ytbfcccoeekonlaa.red (Go.Proofs.Ytbfcccoeekonlaa.cmulR x1 x2 x5 (Go.Proofs.Ytbfcccoeekonlaa.red x y f) y_2).fst (Go.Proofs.Ytbfcccoeekonlaa.cmulR x1 x2 x5 (Go.Proofs.Ytbfcccoeekonlaa.red x y f) y_2).snd.fst (Go.Proofs.Ytbfcccoeekonlaa.cmulR x1 x2 x5 (Go.Proofs.Ytbfcccoeekonlaa.red x y f) y_2).snd.snd)).snd.fst % Go.Sx.M256 = (Go.Proofs.Ytbfcccoeekonlaa.cmulR x1 x2 x5 (Go.Proofs.Ytbfcccoeekonlaa.red x y f) y').snd.fst % Go.Sx.M256 ∧ (Go.Proofs.Ytbfcccoeekonlaa.csum x1 x2 (Go.Proofs.Ytbfcccoeekonlaa.red (Go.Proofs.Ytbfcccoeekonlaa.cmulR x1 x2 x5 (Go.Proofs.Ytbfcccoeekonlaa.red x y f) y_2).fst (Go.Proofs.Ytbfcccoeekonlaa.cmulR x1 x2 x5 (Go.Proofs.Ytbfcccoeekonlaa.red x y f) y_2).snd.fst (Go.Proofs.Ytbfcccoeekonlaa.cmulR x1 x2 x5 (Go.Proofs.Ytbfcccoeekonlaa.red x y f) y_2).snd.snd) (Go.Proofs.Ytbfcccoeekonlaa.red (Go.Proofs.Ytbfcccoeekonlaa.cmulR x1 x2 x5 (Go.Proofs.Ytbfcccoeekonlaa.red x y f) y_2).fst (Go.Proofs.Ytbfcccoeekonlaa.cmulR x1 x2 x5 (Go.Proofs.Ytbfcccoeekonlaa.red x y f) y_2).snd.fst (Go.Proofs.Ytbfcccoeekonlaa.cmulR x1 x2 x5 (Go.Proofs.Ytbfcccoeekonlaa.red x y f) y_2).snd.snd)).snd.snd = (Go.Proofs.Ytbfcccoeekonlaa.cmulR x1 x2 x5 (Go.Proofs.Ytbfcccoeekonlaa.red x y f) y').snd.snd ∧ (0 : Nat) = (0 : Nat) ∧ (256 : Nat) - y' < (256 : Nat) - y_2)) ∧ ((Decidable.decide ((255 : Int) - (↑y_2 : Int) ≥ (0 : Int)) && (0 : Int) == (0 : Int)) = Bool.false → (0 : Int) = (0 : Int) ∧ ((Go.Proofs.Ytbfcccoeekonlaa.cmulR x1 x2 x5 (Go.Proofs.Ytbfcccoeekonlaa.red x y f) y_2).fst % Go.Sx.M256 = (Go.Proofs.Ytbfcccoeekonlaa.cmulR x1 x2 x5 (Go.Proofs.Ytbfcccoeekonlaa.red x y f) (256 : Nat)).fst % Go.Sx.M256 ∧ (Go.Proofs.Ytbfcccoeekonlaa.cmulR x1 x2 x5 (Go.Proofs.Ytbfcccoeekonlaa.red x y f) y_2).snd.fst % Go.Sx.M256 = (Go.Proofs.Ytbfcccoeekonlaa.cmulR x1 x2 x5 (Go.Proofs.Ytbfcccoeekonlaa.red x y f) (256 : Nat)).snd.fst % Go.Sx.M256 ∧ (Go.Proofs.Ytbfcccoeekonlaa.cmulR x1 x2 x5 (Go.Proofs.Ytbfcccoeekonlaa.red x y f) y_2).snd.snd = (Go.Proofs.Ytbfcccoeekonlaa.cmulR x1 x2 x5 (Go.Proofs.Ytbfcccoeekonlaa.red x y f) (256 : Nat)).snd.snd ∧ True) ∧ (0 : Int) = (0 : Int))) := by kernel_rfl
-- END VC

end Go.Proofs.Ytbfcccoeekonlaa
end

section
/-
  Texts of numbers: reckoned by the kernel. (Laid by program.)
-/
namespace Go.Proofs.Ytbfcccoeekonlaa
open Go.Sx
set_option maxRecDepth 100000
def splitG (a : Nat) (n : Int) : SV := .tup [sU (a % M256 / n.toNat), sI .u64 ((a % M256 % n.toNat : Nat) : Int)]
def splitC (_ : Nat) (n : Int) : List Prop := [1 ≤ n ∧ n < 18446744073709551616]
def cxSplit : Cx := [(94, specWWW divC divG)]
/-- The row of digits after k rounds. -/
def showF (n k : Nat) (j : Nat) : Int := if 78 - k ≤ j then ((48 + n / 10 ^ (77 - j) % 10 : Nat) : Int) else 0
/-- The text of a number of m digits. -/
def textOf (n m : Nat) : ByteArray := bytesI ((List.range m).map fun j => ((48 + n / 10 ^ (m - 1 - j) % 10 : Nat) : Int))
def lenD : Nat → Nat → Nat
  | 0, _ => 1
  | f + 1, n => if n / 10 = 0 then 1 else lenD f (n / 10) + 1
def showB (n : Nat) : ByteArray := textOf n (lenD 78 n)
def showG (a : Nat) : SV := .one (sStr (showB (a % M256)))
def byteAt (s : ByteArray) (j : Nat) : Nat := (s.data.getD j 0).toNat
def allDig (s : ByteArray) : Nat → Bool
  | 0 => true
  | i + 1 => allDig s i && decide (48 ≤ byteAt s i ∧ byteAt s i ≤ 57)
def decB (s : ByteArray) : Bool := allDig s s.size && (decide (s.size = 1) || decide (1 < s.size ∧ byteAt s 0 ≠ 48))
def decG (s : ByteArray) : SV := .one (sB (decB s))
def invDec (s : ByteArray) : Inv where
  X := Nat
  tm i := slotsAt 33 [(0, .one (sStr s)), (2, .one (.sc (.bit false))), (5, .one (sI .i64 (s.size : Int))), (6, .one (sI .i64 (i : Int)))]
  ob _ := []
  holds i := i ≤ s.size ∧ allDig s i = true
  less i := s.size - i
def valP (s : ByteArray) : Nat → Nat
  | 0 => 0
  | i + 1 => 10 * valP s i + (byteAt s i - 48)
def parseE (s : ByteArray) : Int := if 78 < s.size then 1 else if decB s = false then 3 else if M256 ≤ valP s s.size then 6 else 0
def parseV (s : ByteArray) : Nat := if parseE s = 0 then valP s s.size else 0
def parseG (s : ByteArray) : SV := .tup [sU (parseV s), sI .i64 (parseE s)]
def invParse (s : ByteArray) : Inv where
  X := Nat
  tm i := slotsAt 49 [(0, .one (sStr s)), (2, .one (.sc (.ptr 0 0))), (3, .one (.sc (.num .i64 0))), (4, .one (.sc (.ptr 1 0))), (19, .one (sI .i64 (s.size : Int))), (20, .one (sI .i64 (i : Int)))]
  ob i := [.cells 26 [.c (.num .u64 0), .c (.num .u64 0), .c (.num .u64 0), .c (.num .u64 0)] 0, .cells 26 [.u (valP s i)] 0]
  holds i := i ≤ s.size ∧ valP s i < M256
  less i := s.size - i
end Go.Proofs.Ytbfcccoeekonlaa
end

section
/-
  What powers of ten, and bytes, come to: reckoned by the kernel. (Laid by program.)
-/
namespace Go.Proofs.Ytbfcccoeekonlaa
open Go.Sx
set_option maxRecDepth 100000
def cxTen : Cx := [(86, specUI timesG)]
def wordF (a b : Int) (s : ByteArray) (j : Nat) : Int := if j = 31 then IntKind.u8.wrap b else if j = 30 then IntKind.u8.wrap a else if j < s.size then ((s.data.getD j 0).toNat : Int) else 0
def wordG (_ a b : Int) (s : ByteArray) : SV := .one (sBy 32 (wordF a b s))
def invTen (n : Int) : Inv where
  X := Nat
  tm i := slotsAt 23 [(0, .one (sI .i64 n)), (2, .one (.sc (.ptr 0 0))), (4, .one (.sc (.ptr 1 0))), (13, .one (sI .i64 n)), (14, .one (sI .i64 i))]
  ob i := [.cells 26 [.c (.num .u64 0), .c (.num .u64 0), .c (.num .u64 0), .c (.num .u64 0)] 0, .cells 26 [.u (10 ^ i)] 0]
  holds i := (i : Int) ≤ n
  less i := n.toNat - i
-- VC vc_From HASH 9303699a2049e94b
theorem vc_From (g : Nat → Int) :
    Owes Try.prog Cx.none [] 400 Try.f34 [sBy 32 g] (fromG g) =
    (let x1 : Int := Go.IntKind.u64.wrap (↑(BitVec.ofInt (64 : Nat) (Go.IntKind.u64.wrap (↑(BitVec.ofInt (64 : Nat) (Go.IntKind.u64.wrap (↑(BitVec.ofInt (64 : Nat) (Go.IntKind.u64.wrap (↑(BitVec.ofInt (64 : Nat) (Go.IntKind.u64.wrap (↑(BitVec.ofInt (64 : Nat) (Go.IntKind.u64.wrap (↑(BitVec.ofInt (64 : Nat) (Go.IntKind.u64.wrap (↑(BitVec.ofInt (64 : Nat) (Go.IntKind.u64.wrap (↑(BitVec.ofInt (64 : Nat) (0 : Int) ||| BitVec.ofInt (64 : Nat) (Go.IntKind.u64.wrap (Go.IntKind.u64.wrap (g (31 : Nat)) * (1 : Int)))).toNat : Int)) ||| BitVec.ofInt (64 : Nat) (Go.IntKind.u64.wrap (Go.IntKind.u64.wrap (g (30 : Nat)) * (256 : Int)))).toNat : Int)) ||| BitVec.ofInt (64 : Nat) (Go.IntKind.u64.wrap (Go.IntKind.u64.wrap (g (29 : Nat)) * (65536 : Int)))).toNat : Int)) ||| BitVec.ofInt (64 : Nat) (Go.IntKind.u64.wrap (Go.IntKind.u64.wrap (g (28 : Nat)) * (16777216 : Int)))).toNat : Int)) ||| BitVec.ofInt (64 : Nat) (Go.IntKind.u64.wrap (Go.IntKind.u64.wrap (g (27 : Nat)) * (4294967296 : Int)))).toNat : Int)) ||| BitVec.ofInt (64 : Nat) (Go.IntKind.u64.wrap (Go.IntKind.u64.wrap (g (26 : Nat)) * (1099511627776 : Int)))).toNat : Int)) ||| BitVec.ofInt (64 : Nat) (Go.IntKind.u64.wrap (Go.IntKind.u64.wrap (g (25 : Nat)) * (281474976710656 : Int)))).toNat : Int)) ||| BitVec.ofInt (64 : Nat) (Go.IntKind.u64.wrap (Go.IntKind.u64.wrap (g (24 : Nat)) * (72057594037927936 : Int)))).toNat : Int); let x2 : Int := Go.IntKind.u64.wrap (↑(BitVec.ofInt (64 : Nat) (Go.IntKind.u64.wrap (↑(BitVec.ofInt (64 : Nat) (Go.IntKind.u64.wrap (↑(BitVec.ofInt (64 : Nat) (Go.IntKind.u64.wrap (↑(BitVec.ofInt (64 : Nat) (Go.IntKind.u64.wrap (↑(BitVec.ofInt (64 : Nat) (Go.IntKind.u64.wrap (↑(BitVec.ofInt (64 : Nat) (Go.IntKind.u64.wrap (↑(BitVec.ofInt (64 : Nat) (Go.IntKind.u64.wrap (↑(BitVec.ofInt (64 : Nat) (0 : Int) ||| BitVec.ofInt (64 : Nat) (Go.IntKind.u64.wrap (Go.IntKind.u64.wrap (g (23 : Nat)) * (1 : Int)))).toNat : Int)) ||| BitVec.ofInt (64 : Nat) (Go.IntKind.u64.wrap (Go.IntKind.u64.wrap (g (22 : Nat)) * (256 : Int)))).toNat : Int)) ||| BitVec.ofInt (64 : Nat) (Go.IntKind.u64.wrap (Go.IntKind.u64.wrap (g (21 : Nat)) * (65536 : Int)))).toNat : Int)) ||| BitVec.ofInt (64 : Nat) (Go.IntKind.u64.wrap (Go.IntKind.u64.wrap (g (20 : Nat)) * (16777216 : Int)))).toNat : Int)) ||| BitVec.ofInt (64 : Nat) (Go.IntKind.u64.wrap (Go.IntKind.u64.wrap (g (19 : Nat)) * (4294967296 : Int)))).toNat : Int)) ||| BitVec.ofInt (64 : Nat) (Go.IntKind.u64.wrap (Go.IntKind.u64.wrap (g (18 : Nat)) * (1099511627776 : Int)))).toNat : Int)) ||| BitVec.ofInt (64 : Nat) (Go.IntKind.u64.wrap (Go.IntKind.u64.wrap (g (17 : Nat)) * (281474976710656 : Int)))).toNat : Int)) ||| BitVec.ofInt (64 : Nat) (Go.IntKind.u64.wrap (Go.IntKind.u64.wrap (g (16 : Nat)) * (72057594037927936 : Int)))).toNat : Int); let x3 : Int := Go.IntKind.u64.wrap (↑(BitVec.ofInt (64 : Nat) (Go.IntKind.u64.wrap (↑(BitVec.ofInt (64 : Nat) (Go.IntKind.u64.wrap (↑(BitVec.ofInt (64 : Nat) (Go.IntKind.u64.wrap (↑(BitVec.ofInt (64 : Nat) (Go.IntKind.u64.wrap (↑(BitVec.ofInt (64 : Nat) (Go.IntKind.u64.wrap (↑(BitVec.ofInt (64 : Nat) (Go.IntKind.u64.wrap (↑(BitVec.ofInt (64 : Nat) (Go.IntKind.u64.wrap (↑(BitVec.ofInt (64 : Nat) (0 : Int) ||| BitVec.ofInt (64 : Nat) (Go.IntKind.u64.wrap (Go.IntKind.u64.wrap (g (15 : Nat)) * (1 : Int)))).toNat : Int)) ||| BitVec.ofInt (64 : Nat) (Go.IntKind.u64.wrap (Go.IntKind.u64.wrap (g (14 : Nat)) * (256 : Int)))).toNat : Int)) ||| BitVec.ofInt (64 : Nat) (Go.IntKind.u64.wrap (Go.IntKind.u64.wrap (g (13 : Nat)) * (65536 : Int)))).toNat : Int)) ||| BitVec.ofInt (64 : Nat) (Go.IntKind.u64.wrap (Go.IntKind.u64.wrap (g (12 : Nat)) * (16777216 : Int)))).toNat : Int)) ||| BitVec.ofInt (64 : Nat) (Go.IntKind.u64.wrap (Go.IntKind.u64.wrap (g (11 : Nat)) * (4294967296 : Int)))).toNat : Int)) ||| BitVec.ofInt (64 : Nat) (Go.IntKind.u64.wrap (Go.IntKind.u64.wrap (g (10 : Nat)) * (1099511627776 : Int)))).toNat : Int)) ||| BitVec.ofInt (64 : Nat) (Go.IntKind.u64.wrap (Go.IntKind.u64.wrap (g (9 : Nat)) * (281474976710656 : Int)))).toNat : Int)) ||| BitVec.ofInt (64 : Nat) (Go.IntKind.u64.wrap (Go.IntKind.u64.wrap (g (8 : Nat)) * (72057594037927936 : Int)))).toNat : Int); let x4 : Int := Go.IntKind.u64.wrap (↑(BitVec.ofInt (64 : Nat) (Go.IntKind.u64.wrap (↑(BitVec.ofInt (64 : Nat) (Go.IntKind.u64.wrap (↑(BitVec.ofInt (64 : Nat) (Go.IntKind.u64.wrap (↑(BitVec.ofInt (64 : Nat) (Go.IntKind.u64.wrap (↑(BitVec.ofInt (64 : Nat) (Go.IntKind.u64.wrap (↑(BitVec.ofInt (64 : Nat) (Go.IntKind.u64.wrap (↑(BitVec.ofInt (64 : Nat) (Go.IntKind.u64.wrap (↑(BitVec.ofInt (64 : Nat) (0 : Int) ||| BitVec.ofInt (64 : Nat) (Go.IntKind.u64.wrap (Go.IntKind.u64.wrap (g (7 : Nat)) * (1 : Int)))).toNat : Int)) ||| BitVec.ofInt (64 : Nat) (Go.IntKind.u64.wrap (Go.IntKind.u64.wrap (g (6 : Nat)) * (256 : Int)))).toNat : Int)) ||| BitVec.ofInt (64 : Nat) (Go.IntKind.u64.wrap (Go.IntKind.u64.wrap (g (5 : Nat)) * (65536 : Int)))).toNat : Int)) ||| BitVec.ofInt (64 : Nat) (Go.IntKind.u64.wrap (Go.IntKind.u64.wrap (g (4 : Nat)) * (16777216 : Int)))).toNat : Int)) ||| BitVec.ofInt (64 : Nat) (Go.IntKind.u64.wrap (Go.IntKind.u64.wrap (g (3 : Nat)) * (4294967296 : Int)))).toNat : Int)) ||| BitVec.ofInt (64 : Nat) (Go.IntKind.u64.wrap (Go.IntKind.u64.wrap (g (2 : Nat)) * (1099511627776 : Int)))).toNat : Int)) ||| BitVec.ofInt (64 : Nat) (Go.IntKind.u64.wrap (Go.IntKind.u64.wrap (g (1 : Nat)) * (281474976710656 : Int)))).toNat : Int)) ||| BitVec.ofInt (64 : Nat) (Go.IntKind.u64.wrap (Go.IntKind.u64.wrap (g (0 : Nat)) * (72057594037927936 : Int)))).toNat : Int); ((0 : Int) ≤ x1 ∧ x1 < (18446744073709551616 : Int)) ∧ ((0 : Int) ≤ x2 ∧ x2 < (18446744073709551616 : Int)) ∧ ((0 : Int) ≤ x3 ∧ x3 < (18446744073709551616 : Int)) ∧ ((0 : Int) ≤ x4 ∧ x4 < (18446744073709551616 : Int)) ∧ Go.Sx.join x1 x2 x3 x4 % Go.Sx.M256 = Go.Sx.fromN g (32 : Nat) % Go.Sx.M256 ∧ True) := by kernel_rfl
-- END VC
-- VC vc_word HASH 1db03f93fdcbfd21
theorem vc_word (k a b : Int) (s : ByteArray) :
    Owes Try.prog Cx.none [] 400 Try.f20 [sRaw k a b s] (wordG k a b s) =
    ((if (0 : Nat) < s.size then (↑(s.data.getD (0 : Nat) (0 : UInt8)).toNat : Int) else (0 : Int)) = Go.Proofs.Ytbfcccoeekonlaa.wordF a b s (0 : Nat) ∧ (if (1 : Nat) < s.size then (↑(s.data.getD (1 : Nat) (0 : UInt8)).toNat : Int) else (0 : Int)) = Go.Proofs.Ytbfcccoeekonlaa.wordF a b s (1 : Nat) ∧ (if (2 : Nat) < s.size then (↑(s.data.getD (2 : Nat) (0 : UInt8)).toNat : Int) else (0 : Int)) = Go.Proofs.Ytbfcccoeekonlaa.wordF a b s (2 : Nat) ∧ (if (3 : Nat) < s.size then (↑(s.data.getD (3 : Nat) (0 : UInt8)).toNat : Int) else (0 : Int)) = Go.Proofs.Ytbfcccoeekonlaa.wordF a b s (3 : Nat) ∧ (if (4 : Nat) < s.size then (↑(s.data.getD (4 : Nat) (0 : UInt8)).toNat : Int) else (0 : Int)) = Go.Proofs.Ytbfcccoeekonlaa.wordF a b s (4 : Nat) ∧ (if (5 : Nat) < s.size then (↑(s.data.getD (5 : Nat) (0 : UInt8)).toNat : Int) else (0 : Int)) = Go.Proofs.Ytbfcccoeekonlaa.wordF a b s (5 : Nat) ∧ (if (6 : Nat) < s.size then (↑(s.data.getD (6 : Nat) (0 : UInt8)).toNat : Int) else (0 : Int)) = Go.Proofs.Ytbfcccoeekonlaa.wordF a b s (6 : Nat) ∧ (if (7 : Nat) < s.size then (↑(s.data.getD (7 : Nat) (0 : UInt8)).toNat : Int) else (0 : Int)) = Go.Proofs.Ytbfcccoeekonlaa.wordF a b s (7 : Nat) ∧ (if (8 : Nat) < s.size then (↑(s.data.getD (8 : Nat) (0 : UInt8)).toNat : Int) else (0 : Int)) = Go.Proofs.Ytbfcccoeekonlaa.wordF a b s (8 : Nat) ∧ (if (9 : Nat) < s.size then (↑(s.data.getD (9 : Nat) (0 : UInt8)).toNat : Int) else (0 : Int)) = Go.Proofs.Ytbfcccoeekonlaa.wordF a b s (9 : Nat) ∧ (if (10 : Nat) < s.size then (↑(s.data.getD (10 : Nat) (0 : UInt8)).toNat : Int) else (0 : Int)) = Go.Proofs.Ytbfcccoeekonlaa.wordF a b s (10 : Nat) ∧ (if (11 : Nat) < s.size then (↑(s.data.getD (11 : Nat) (0 : UInt8)).toNat : Int) else (0 : Int)) = Go.Proofs.Ytbfcccoeekonlaa.wordF a b s (11 : Nat) ∧ (if (12 : Nat) < s.size then (↑(s.data.getD (12 : Nat) (0 : UInt8)).toNat : Int) else (0 : Int)) = Go.Proofs.Ytbfcccoeekonlaa.wordF a b s (12 : Nat) ∧ (if (13 : Nat) < s.size then (↑(s.data.getD (13 : Nat) (0 : UInt8)).toNat : Int) else (0 : Int)) = Go.Proofs.Ytbfcccoeekonlaa.wordF a b s (13 : Nat) ∧ (if (14 : Nat) < s.size then (↑(s.data.getD (14 : Nat) (0 : UInt8)).toNat : Int) else (0 : Int)) = Go.Proofs.Ytbfcccoeekonlaa.wordF a b s (14 : Nat) ∧ (if (15 : Nat) < s.size then (↑(s.data.getD (15 : Nat) (0 : UInt8)).toNat : Int) else (0 : Int)) = Go.Proofs.Ytbfcccoeekonlaa.wordF a b s (15 : Nat) ∧ (if (16 : Nat) < s.size then (↑(s.data.getD (16 : Nat) (0 : UInt8)).toNat : Int) else (0 : Int)) = Go.Proofs.Ytbfcccoeekonlaa.wordF a b s (16 : Nat) ∧ (if (17 : Nat) < s.size then (↑(s.data.getD (17 : Nat) (0 : UInt8)).toNat : Int) else (0 : Int)) = Go.Proofs.Ytbfcccoeekonlaa.wordF a b s (17 : Nat) ∧ (if (18 : Nat) < s.size then (↑(s.data.getD (18 : Nat) (0 : UInt8)).toNat : Int) else (0 : Int)) = Go.Proofs.Ytbfcccoeekonlaa.wordF a b s (18 : Nat) ∧ (if (19 : Nat) < s.size then (↑(s.data.getD (19 : Nat) (0 : UInt8)).toNat : Int) else (0 : Int)) = Go.Proofs.Ytbfcccoeekonlaa.wordF a b s (19 : Nat) ∧ (if (20 : Nat) < s.size then (↑(s.data.getD (20 : Nat) (0 : UInt8)).toNat : Int) else (0 : Int)) = Go.Proofs.Ytbfcccoeekonlaa.wordF a b s (20 : Nat) ∧ (if (21 : Nat) < s.size then (↑(s.data.getD (21 : Nat) (0 : UInt8)).toNat : Int) else (0 : Int)) = Go.Proofs.Ytbfcccoeekonlaa.wordF a b s (21 : Nat) ∧ (if (22 : Nat) < s.size then (↑(s.data.getD (22 : Nat) (0 : UInt8)).toNat : Int) else (0 : Int)) = Go.Proofs.Ytbfcccoeekonlaa.wordF a b s (22 : Nat) ∧ (if (23 : Nat) < s.size then (↑(s.data.getD (23 : Nat) (0 : UInt8)).toNat : Int) else (0 : Int)) = Go.Proofs.Ytbfcccoeekonlaa.wordF a b s (23 : Nat) ∧ (if (24 : Nat) < s.size then (↑(s.data.getD (24 : Nat) (0 : UInt8)).toNat : Int) else (0 : Int)) = Go.Proofs.Ytbfcccoeekonlaa.wordF a b s (24 : Nat) ∧ (if (25 : Nat) < s.size then (↑(s.data.getD (25 : Nat) (0 : UInt8)).toNat : Int) else (0 : Int)) = Go.Proofs.Ytbfcccoeekonlaa.wordF a b s (25 : Nat) ∧ (if (26 : Nat) < s.size then (↑(s.data.getD (26 : Nat) (0 : UInt8)).toNat : Int) else (0 : Int)) = Go.Proofs.Ytbfcccoeekonlaa.wordF a b s (26 : Nat) ∧ (if (27 : Nat) < s.size then (↑(s.data.getD (27 : Nat) (0 : UInt8)).toNat : Int) else (0 : Int)) = Go.Proofs.Ytbfcccoeekonlaa.wordF a b s (27 : Nat) ∧ (if (28 : Nat) < s.size then (↑(s.data.getD (28 : Nat) (0 : UInt8)).toNat : Int) else (0 : Int)) = Go.Proofs.Ytbfcccoeekonlaa.wordF a b s (28 : Nat) ∧ (if (29 : Nat) < s.size then (↑(s.data.getD (29 : Nat) (0 : UInt8)).toNat : Int) else (0 : Int)) = Go.Proofs.Ytbfcccoeekonlaa.wordF a b s (29 : Nat) ∧ Go.IntKind.u8.wrap a = Go.Proofs.Ytbfcccoeekonlaa.wordF a b s (30 : Nat) ∧ Go.IntKind.u8.wrap b = Go.Proofs.Ytbfcccoeekonlaa.wordF a b s (31 : Nat) ∧ True) := by kernel_rfl
-- END VC
end Go.Proofs.Ytbfcccoeekonlaa
end

section
/-
  Package wide's functions, each held to its card: the numbers' side.
-/
namespace Go.Proofs.Ytbfcccoeekonlaa
open Go.Sx

theorem split4 (n : Nat) : ∃ a b c d : Nat, limb n 0 = a ∧ limb n 1 = b ∧ limb n 2 = c ∧ limb n 3 = d ∧ a < 18446744073709551616 ∧ b < 18446744073709551616 ∧ c < 18446744073709551616 ∧ d < 18446744073709551616 ∧
    n % M256 = a + 18446744073709551616 * b + 340282366920938463463374607431768211456 * c + 6277101735386680763835789423207666416102355444464034512896 * d := by
  refine ⟨n / 2 ^ (64 * 0) % 2 ^ 64, n / 2 ^ (64 * 1) % 2 ^ 64, n / 2 ^ (64 * 2) % 2 ^ 64, n / 2 ^ (64 * 3) % 2 ^ 64, rfl, rfl, rfl, rfl, Nat.mod_lt _ (by decide), Nat.mod_lt _ (by decide), Nat.mod_lt _ (by decide), Nat.mod_lt _ (by decide), ?_⟩
  rw [limbs_sum]
  simp only [Nat.mul_zero, Nat.pow_zero, Nat.div_one, Nat.mul_one, Nat.reduceMul, Nat.reducePow]

theorem M256_eq : M256 = 115792089237316195423570985008687907853269984665640564039457584007913129639936 := by decide

theorem carry_step (x y c : Nat) (hx : x < 18446744073709551616) (hy : y < 18446744073709551616) (hc : c ≤ 1) :
    ∃ s d : Nat, ((x : Int) + y + c) % 18446744073709551616 = s ∧ ((x : Int) + y + c) / 18446744073709551616 = d ∧ s < 18446744073709551616 ∧ d ≤ 1 ∧ x + y + c = s + 18446744073709551616 * d :=
  ⟨(x + y + c) % 18446744073709551616, (x + y + c) / 18446744073709551616, by omega, by omega, by omega, by omega, by omega⟩

theorem divmod_of {A S c M : Nat} (h : A = S + M * c) (hS : S < M) : A % M = S ∧ A / M = c := by
  subst h
  rw [Nat.add_mul_mod_self_left, Nat.mod_eq_of_lt hS, Nat.add_mul_div_left _ _ (by omega), Nat.div_eq_of_lt hS]
  exact ⟨rfl, by omega⟩

theorem ok_plus : ∀ a b, Owes Try.prog cxPlus [] 100 Try.f41 [sU a, sU b] (plusG a b) := by
  intro a b
  rw [vc_plus]
  have hab := Nat.add_mod a b M256
  obtain ⟨a0, a1, a2, a3, e0, e1, e2, e3, h0, h1, h2, h3, ha⟩ := split4 a
  obtain ⟨b0, b1, b2, b3, f0, f1, f2, f3, k0, k1, k2, k3, hb⟩ := split4 b
  rw [e0, e1, e2, e3, f0, f1, f2, f3]
  rw [ha, hb] at hab
  rw [ha, hb]
  obtain ⟨s0, c0, p0, q0, r0, t0, w0⟩ := carry_step a0 b0 0 h0 k0 (by omega)
  obtain ⟨s1, c1, p1, q1, r1, t1, w1⟩ := carry_step a1 b1 c0 h1 k1 t0
  obtain ⟨s2, c2, p2, q2, r2, t2, w2⟩ := carry_step a2 b2 c1 h2 k2 t1
  obtain ⟨s3, c3, p3, q3, r3, t3, w3⟩ := carry_step a3 b3 c2 h3 k3 t2
  simp only [Int.natCast_zero] at p0 q0
  obtain ⟨m1, m2⟩ := divmod_of (A := a0 + 18446744073709551616 * a1 + 340282366920938463463374607431768211456 * a2 + 6277101735386680763835789423207666416102355444464034512896 * a3 +
    (b0 + 18446744073709551616 * b1 + 340282366920938463463374607431768211456 * b2 + 6277101735386680763835789423207666416102355444464034512896 * b3))
    (S := s0 + 2 ^ 64 * s1 + 2 ^ 128 * s2 + 2 ^ 192 * s3) (c := c3) (M := M256) (by rw [M256_eq]; omega) (by rw [M256_eq]; omega)
  rw [m1] at hab
  have hS : (s0 + 2 ^ 64 * s1 + 2 ^ 128 * s2 + 2 ^ 192 * s3) % M256 = s0 + 2 ^ 64 * s1 + 2 ^ 128 * s2 + 2 ^ 192 * s3 := Nat.mod_eq_of_lt (by rw [M256_eq]; omega)
  simp only [q0, q1, q2, q3, p0, p1, p2, p3, join, Int.toNat_natCast, and_true, hab, hS, m2]
  clear ha hb hab hS m1 m2 p0 p1 p2 p3 q0 q1 q2 q3 w0 w1 w2 w3 e0 e1 e2 e3 f0 f1 f2 f3
  refine ⟨?_, ?_, ?_, ?_, ?_, ?_, ?_, ?_, ?_, ?_, ?_, ?_, ?_, ?_, ?_, ?_⟩ <;> omega

theorem borrow_step (x y c : Nat) (hx : x < 18446744073709551616) (hy : y < 18446744073709551616) (hc : c ≤ 1) :
    ∃ s d : Nat, ((x : Int) - y - c) % 18446744073709551616 = s ∧ -(((x : Int) - y - c) / 18446744073709551616) = d ∧ s < 18446744073709551616 ∧ d ≤ 1 ∧ x + 18446744073709551616 * d = s + y + c :=
  ⟨(((x : Int) - y - c) % 18446744073709551616).toNat, (-(((x : Int) - y - c) / 18446744073709551616)).toNat, by omega, by omega, by omega, by omega, by omega⟩

theorem ok_less : ∀ a b, Owes Try.prog cxLess [] 100 Try.f81 [sU a, sU b] (lessG a b) := by
  intro a b
  rw [vc_less]
  obtain ⟨a0, a1, a2, a3, e0, e1, e2, e3, h0, h1, h2, h3, ha⟩ := split4 a
  obtain ⟨b0, b1, b2, b3, f0, f1, f2, f3, k0, k1, k2, k3, hb⟩ := split4 b
  rw [e0, e1, e2, e3, f0, f1, f2, f3, ha, hb]
  obtain ⟨s0, c0, p0, q0, r0, t0, w0⟩ := borrow_step a0 b0 0 h0 k0 (by omega)
  obtain ⟨s1, c1, p1, q1, r1, t1, w1⟩ := borrow_step a1 b1 c0 h1 k1 t0
  obtain ⟨s2, c2, p2, q2, r2, t2, w2⟩ := borrow_step a2 b2 c1 h2 k2 t1
  obtain ⟨s3, c3, p3, q3, r3, t3, w3⟩ := borrow_step a3 b3 c2 h3 k3 t2
  simp only [Int.natCast_zero] at p0 q0
  have key : a0 + 18446744073709551616 * a1 + 340282366920938463463374607431768211456 * a2 + 6277101735386680763835789423207666416102355444464034512896 * a3 + M256 * c3 =
    (s0 + 2 ^ 64 * s1 + 2 ^ 128 * s2 + 2 ^ 192 * s3) + (b0 + 18446744073709551616 * b1 + 340282366920938463463374607431768211456 * b2 + 6277101735386680763835789423207666416102355444464034512896 * b3) := by
    rw [M256_eq]; omega
  simp only [q0, q1, q2, q3, p0, p1, p2, p3, join, Int.toNat_natCast, and_true]
  generalize hA : a0 + 18446744073709551616 * a1 + 340282366920938463463374607431768211456 * a2 + 6277101735386680763835789423207666416102355444464034512896 * a3 = A at *
  generalize hB : b0 + 18446744073709551616 * b1 + 340282366920938463463374607431768211456 * b2 + 6277101735386680763835789423207666416102355444464034512896 * b3 = B at *
  have hA' : A < M256 := by rw [M256_eq]; omega
  have hB' : B < M256 := by rw [M256_eq]; omega
  have hS' : s0 + 2 ^ 64 * s1 + 2 ^ 128 * s2 + 2 ^ 192 * s3 < M256 := by rw [M256_eq]; omega
  generalize s0 + 2 ^ 64 * s1 + 2 ^ 128 * s2 + 2 ^ 192 * s3 = S at *
  rw [Nat.mod_eq_of_lt hS']
  have hc3 : c3 = 0 ∨ c3 = 1 := by omega
  have fin : S = (A + M256 - B) % M256 ∧ (c3 : Int) = if A < B then 1 else 0 := by
    rcases hc3 with rfl | rfl
    · have : ¬ A < B := by omega
      rw [if_neg this]
      refine ⟨?_, rfl⟩
      rw [show A + M256 - B = S + M256 by omega, Nat.add_mod_right, Nat.mod_eq_of_lt hS']
    · have : A < B := by omega
      rw [if_pos this]
      refine ⟨?_, rfl⟩
      rw [show A + M256 - B = S by omega, Nat.mod_eq_of_lt hS']
  obtain ⟨g1, g2⟩ := fin
  rw [← g1, ← g2]
  clear ha hb hA hB key hA' hB' hS' g1 g2 p0 p1 p2 p3 q0 q1 q2 q3 w0 w1 w2 w3 e0 e1 e2 e3 f0 f1 f2 f3
  repeat' apply And.intro
  all_goals first | rfl | omega

theorem ok_Add : ∀ a b, Owes Try.prog cxAdd [] 100 Try.f27 [sU a, sU b] (addG a b) := by
  intro a b
  rw [vc_Add]
  refine ⟨⟨rfl, trivial⟩, ?_⟩
  have hM : 0 < M256 := by decide
  have h1 := Nat.mod_lt a hM
  have h2 := Nat.mod_lt b hM
  rw [Bool.eq_iff_iff]
  simp only [bne_iff_ne, ne_eq, decide_eq_true_eq]
  by_cases h : M256 ≤ a % M256 + b % M256
  · have : (a % M256 + b % M256) / M256 ≠ 0 := by
      have := Nat.div_pos h hM
      omega
    simp only [h, iff_true]; omega
  · have : (a % M256 + b % M256) / M256 = 0 := Nat.div_eq_of_lt (by omega)
    simp [h, this]

theorem ok_Sub : ∀ a b, Owes Try.prog cxSub [] 100 Try.f67 [sU a, sU b] (subG a b) := by
  intro a b
  rw [vc_Sub]
  refine ⟨⟨rfl, trivial⟩, ?_⟩
  by_cases h : a % M256 < b % M256 <;> simp [h]

theorem ok_Cmp : ∀ a b, Owes Try.prog Cx.none [] 100 Try.f39 [sU a, sU b] (cmpG a b) := by
  intro a b
  rw [vc_Cmp]
  obtain ⟨a0, a1, a2, a3, e0, e1, e2, e3, h0, h1, h2, h3, ha⟩ := split4 a
  obtain ⟨b0, b1, b2, b3, f0, f1, f2, f3, k0, k1, k2, k3, hb⟩ := split4 b
  rw [e0, e1, e2, e3, f0, f1, f2, f3]
  simp only [cmpN, ha, hb, decide_eq_true_eq, decide_eq_false_iff_not]
  clear e0 e1 e2 e3 f0 f1 f2 f3 ha hb
  refine ⟨fun h => ?_, fun h => ⟨fun h' => ?_, fun h' => ⟨fun g => ?_, fun g => ⟨fun g' => ?_, fun g' => ⟨fun i => ?_, fun i => ⟨fun i' => ?_, fun i' => ⟨fun j => ?_, fun j => ⟨fun j' => ?_, fun j' => ?_⟩⟩⟩⟩⟩⟩⟩⟩
  all_goals
    split
    · omega
    · first
      | omega
      | (split <;> omega)

theorem ok_picked (n m : Int) (hn : i64ok n) (hm : 0 < m ∧ m ≤ 1000000) : Owes Try.prog Cx.none [] 100 Try.f6 [sI .i64 n, sI .i64 m] (pickedG n m) := by
  rw [vc_picked]
  obtain ⟨h1, h2⟩ := hn
  have hd := Int.tmod_add_mul_tdiv n m
  have b1 := Int.emod_nonneg n (show m ≠ 0 by omega)
  have b2 := Int.emod_lt_of_pos n hm.1
  have hlt := Int.tmod_lt_of_pos n hm.1
  refine ⟨by omega, fun h => ?_, fun h => ?_⟩
  · simp only [decide_eq_true_eq] at h
    have hgt : -m < n.tmod m := by
      have := Int.lt_tmod_of_pos n hm.1
      exact this
    have e : n.tmod m + m = n % m := by
      have : (n.tmod m + m) % m = n.tmod m + m := Int.emod_eq_of_lt (by omega) (by omega)
      rw [← this]
      conv => rhs; rw [← hd]
      rw [Int.add_mul_emod_self_left, Int.add_emod_right]
    rw [e]
    exact IntWalk.i64_in _ (by omega)
  · simp only [decide_eq_false_iff_not] at h
    have : n.tmod m % m = n.tmod m := Int.emod_eq_of_lt (by omega) hlt
    rw [← this]
    conv => rhs; rw [← hd]
    rw [Int.add_mul_emod_self_left]

end Go.Proofs.Ytbfcccoeekonlaa
end

section
/-
  The laws' drawn numbers, and the laws of sums: the numbers' side.
-/
namespace Go.Proofs.Ytbfcccoeekonlaa
open Go.Sx

theorem add_back (x y : Nat) : ((x + y) % M256 + M256 - y % M256) % M256 = x % M256 := by
  have : M256 = 115792089237316195423570985008687907853269984665640564039457584007913129639936 := M256_eq
  rw [this]
  omega
theorem add_over (x y : Nat) : (M256 ≤ x % M256 + y % M256) ↔ ((x + y) % M256 < y % M256) := by
  have : M256 = 115792089237316195423570985008687907853269984665640564039457584007913129639936 := M256_eq
  rw [this]
  omega

end Go.Proofs.Ytbfcccoeekonlaa
end
