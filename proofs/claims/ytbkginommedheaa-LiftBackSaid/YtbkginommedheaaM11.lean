/-
  Texts: V16, P43, P44, P45.
-/
import Derived.Test.YtbkginommedheaaM1
import Derived.Test.YtbkginommedheaaM2
import Derived.Test.YtbkginommedheaaM3
import Derived.Test.YtbkginommedheaaM4
import Derived.Test.YtbkginommedheaaM5
import Derived.Test.YtbkginommedheaaM6
import Derived.Test.YtbkginommedheaaM7
import Derived.Test.YtbkginommedheaaM8
import Derived.Test.YtbkginommedheaaM9
import Derived.Test.YtbkginommedheaaM10
section
/-
  Laws on small curves: reckoned by the kernel. (Laid by program.)
-/
namespace Go.Proofs.Ytbkginommedheaa
open Go.Sx
set_option maxRecDepth 100000
def cCurve : FSpec := specA [.int .i64] curveC curveG
def cxCG : Cx := [(17, cCurve), (19, cPoint), (20, cAddS'), (22, cOnS'), (21, spec0 yes)]
def cxCB : Cx := [(17, cCurve), (19, cPoint), (23, specUUU noC fsubG), (20, cAddS'), (24, cMultS'), (21, spec0 yes)]
def cxMA : Cx := [(17, cCurve), (19, cPoint), (25, specRaw rawG), (14, specUU dmG), (26, specUUU noC faddG), (15, specUUU noC fmulG), (20, cAddS'), (24, cMultS'), (21, spec0 yes)]
def cxCO : Cx := [(17, cCurve), (16, cPick), (19, cPoint), (27, cSecret), (24, cMultS'), (21, spec0 yes)]
def cxLB : Cx := [(17, cCurve), (16, cPick), (19, cPoint), (28, cLift), (21, spec0 yes)]
-- VC vc_CurveGroups HASH 89a7a5fefa5a0fe9
theorem vc_CurveGroups (n i j k : Int) :
    Owes Try.prog cxCG [] 100 Try.f6 [sI .i64 n, sI .i64 i, sI .i64 j, sI .i64 k] yes =
    (let x1 : Nat := Go.Proofs.Ytbkginommedheaa.cP (Go.Proofs.Ytbkginommedheaa.ixN n) % Go.Sx.M256; let x2 : Nat := Go.Proofs.Ytbkginommedheaa.ixP x1; let x3 : Nat := Go.Proofs.Ytbkginommedheaa.cB (Go.Proofs.Ytbkginommedheaa.ixN n) % Go.Sx.M256; let x4 : Int := (↑(Go.Proofs.Ytbkginommedheaa.cN x2) : Int); let x5 : Nat := (Go.Proofs.Ytbkginommedheaa.csum x1 (0 : Nat) (Go.Proofs.Ytbkginommedheaa.red (Go.Proofs.Ytbkginommedheaa.ptOf x2 (i % x4).toNat).fst (Go.Proofs.Ytbkginommedheaa.ptOf x2 (i % x4).toNat).snd.fst (Go.Proofs.Ytbkginommedheaa.ptOf x2 (i % x4).toNat).snd.snd) (Go.Proofs.Ytbkginommedheaa.red (Go.Proofs.Ytbkginommedheaa.ptOf x2 (j % x4).toNat).fst (Go.Proofs.Ytbkginommedheaa.ptOf x2 (j % x4).toNat).snd.fst (Go.Proofs.Ytbkginommedheaa.ptOf x2 (j % x4).toNat).snd.snd)).fst; let x6 : Nat := (Go.Proofs.Ytbkginommedheaa.csum x1 (0 : Nat) (Go.Proofs.Ytbkginommedheaa.red (Go.Proofs.Ytbkginommedheaa.ptOf x2 (i % x4).toNat).fst (Go.Proofs.Ytbkginommedheaa.ptOf x2 (i % x4).toNat).snd.fst (Go.Proofs.Ytbkginommedheaa.ptOf x2 (i % x4).toNat).snd.snd) (Go.Proofs.Ytbkginommedheaa.red (Go.Proofs.Ytbkginommedheaa.ptOf x2 (j % x4).toNat).fst (Go.Proofs.Ytbkginommedheaa.ptOf x2 (j % x4).toNat).snd.fst (Go.Proofs.Ytbkginommedheaa.ptOf x2 (j % x4).toNat).snd.snd)).snd.fst; let x7 : Bool := (Go.Proofs.Ytbkginommedheaa.csum x1 (0 : Nat) (Go.Proofs.Ytbkginommedheaa.red (Go.Proofs.Ytbkginommedheaa.ptOf x2 (i % x4).toNat).fst (Go.Proofs.Ytbkginommedheaa.ptOf x2 (i % x4).toNat).snd.fst (Go.Proofs.Ytbkginommedheaa.ptOf x2 (i % x4).toNat).snd.snd) (Go.Proofs.Ytbkginommedheaa.red (Go.Proofs.Ytbkginommedheaa.ptOf x2 (j % x4).toNat).fst (Go.Proofs.Ytbkginommedheaa.ptOf x2 (j % x4).toNat).snd.fst (Go.Proofs.Ytbkginommedheaa.ptOf x2 (j % x4).toNat).snd.snd)).snd.snd; let x8 : Bool := (0 : Int) == (0 : Int); let x9 : Bool := Bool.true && x8; let x10 : Bool := x9 && x8; let x11 : Bool := x10 && x8; let x12 : Bool := x11 && x8; let x13 : Bool := x12 && x8; let x14 : Bool := x13 && Go.Sx.conj [(Go.Proofs.Ytbkginommedheaa.csum x1 (0 : Nat) (Go.Proofs.Ytbkginommedheaa.red x5 x6 x7) (Go.Proofs.Ytbkginommedheaa.red (Go.Proofs.Ytbkginommedheaa.ptOf x2 (k % x4).toNat).fst (Go.Proofs.Ytbkginommedheaa.ptOf x2 (k % x4).toNat).snd.fst (Go.Proofs.Ytbkginommedheaa.ptOf x2 (k % x4).toNat).snd.snd)).fst % Go.Sx.M256 == (Go.Proofs.Ytbkginommedheaa.csum x1 (0 : Nat) (Go.Proofs.Ytbkginommedheaa.red (Go.Proofs.Ytbkginommedheaa.ptOf x2 (i % x4).toNat).fst (Go.Proofs.Ytbkginommedheaa.ptOf x2 (i % x4).toNat).snd.fst (Go.Proofs.Ytbkginommedheaa.ptOf x2 (i % x4).toNat).snd.snd) (Go.Proofs.Ytbkginommedheaa.red (Go.Proofs.Ytbkginommedheaa.csum x1 (0 : Nat) (Go.Proofs.Ytbkginommedheaa.red (Go.Proofs.Ytbkginommedheaa.ptOf x2 (j % x4).toNat).fst (Go.Proofs.Ytbkginommedheaa.ptOf x2 (j % x4).toNat).snd.fst (Go.Proofs.Ytbkginommedheaa.ptOf x2 (j % x4).toNat).snd.snd) (Go.Proofs.Ytbkginommedheaa.red (Go.Proofs.Ytbkginommedheaa.ptOf x2 (k % x4).toNat).fst (Go.Proofs.Ytbkginommedheaa.ptOf x2 (k % x4).toNat).snd.fst (Go.Proofs.Ytbkginommedheaa.ptOf x2 (k % x4).toNat).snd.snd)).fst (Go.Proofs.Ytbkginommedheaa.csum x1 (0 : Nat) (Go.Proofs.Ytbkginommedheaa.red (Go.Proofs.Ytbkginommedheaa.ptOf x2 (j % x4).toNat).fst (Go.Proofs.Ytbkginommedheaa.ptOf x2 (j % x4).toNat).snd.fst (Go.Proofs.Ytbkginommedheaa.ptOf x2 (j % x4).toNat).snd.snd) (Go.Proofs.Ytbkginommedheaa.red (Go.Proofs.Ytbkginommedheaa.ptOf x2 (k % x4).toNat).fst (Go.Proofs.Ytbkginommedheaa.ptOf x2 (k % x4).toNat).snd.fst (Go.Proofs.Ytbkginommedheaa.ptOf x2 (k % x4).toNat).snd.snd)).snd.fst (Go.Proofs.Ytbkginommedheaa.csum x1 (0 : Nat) (Go.Proofs.Ytbkginommedheaa.red (Go.Proofs.Ytbkginommedheaa.ptOf x2 (j % x4).toNat).fst (Go.Proofs.Ytbkginommedheaa.ptOf x2 (j % x4).toNat).snd.fst (Go.Proofs.Ytbkginommedheaa.ptOf x2 (j % x4).toNat).snd.snd) (Go.Proofs.Ytbkginommedheaa.red (Go.Proofs.Ytbkginommedheaa.ptOf x2 (k % x4).toNat).fst (Go.Proofs.Ytbkginommedheaa.ptOf x2 (k % x4).toNat).snd.fst (Go.Proofs.Ytbkginommedheaa.ptOf x2 (k % x4).toNat).snd.snd)).snd.snd)).fst % Go.Sx.M256, (Go.Proofs.Ytbkginommedheaa.csum x1 (0 : Nat) (Go.Proofs.Ytbkginommedheaa.red x5 x6 x7) (Go.Proofs.Ytbkginommedheaa.red (Go.Proofs.Ytbkginommedheaa.ptOf x2 (k % x4).toNat).fst (Go.Proofs.Ytbkginommedheaa.ptOf x2 (k % x4).toNat).snd.fst (Go.Proofs.Ytbkginommedheaa.ptOf x2 (k % x4).toNat).snd.snd)).snd.fst % Go.Sx.M256 == (Go.Proofs.Ytbkginommedheaa.csum x1 (0 : Nat) (Go.Proofs.Ytbkginommedheaa.red (Go.Proofs.Ytbkginommedheaa.ptOf x2 (i % x4).toNat).fst (Go.Proofs.Ytbkginommedheaa.ptOf x2 (i % x4).toNat).snd.fst (Go.Proofs.Ytbkginommedheaa.ptOf x2 (i % x4).toNat).snd.snd) (Go.Proofs.Ytbkginommedheaa.red (Go.Proofs.Ytbkginommedheaa.csum x1 (0 : Nat) (Go.Proofs.Ytbkginommedheaa.red (Go.Proofs.Ytbkginommedheaa.ptOf x2 (j % x4).toNat).fst (Go.Proofs.Ytbkginommedheaa.ptOf x2 (j % x4).toNat).snd.fst (Go.Proofs.Ytbkginommedheaa.ptOf x2 (j % x4).toNat).snd.snd) (Go.Proofs.Ytbkginommedheaa.red (Go.Proofs.Ytbkginommedheaa.ptOf x2 (k % x4).toNat).fst (Go.Proofs.Ytbkginommedheaa.ptOf x2 (k % x4).toNat).snd.fst (Go.Proofs.Ytbkginommedheaa.ptOf x2 (k % x4).toNat).snd.snd)).fst (Go.Proofs.Ytbkginommedheaa.csum x1 (0 : Nat) (Go.Proofs.Ytbkginommedheaa.red (Go.Proofs.Ytbkginommedheaa.ptOf x2 (j % x4).toNat).fst (Go.Proofs.Ytbkginommedheaa.ptOf x2 (j % x4).toNat).snd.fst (Go.Proofs.Ytbkginommedheaa.ptOf x2 (j % x4).toNat).snd.snd) (Go.Proofs.Ytbkginommedheaa.red (Go.Proofs.Ytbkginommedheaa.ptOf x2 (k % x4).toNat).fst (Go.Proofs.Ytbkginommedheaa.ptOf x2 (k % x4).toNat).snd.fst (Go.Proofs.Ytbkginommedheaa.ptOf x2 (k % x4).toNat).snd.snd)).snd.fst (Go.Proofs.Ytbkginommedheaa.csum x1 (0 : Nat) (Go.Proofs.Ytbkginommedheaa.red (Go.Proofs.Ytbkginommedheaa.ptOf x2 (j % x4).toNat).fst (Go.Proofs.Ytbkginommedheaa.ptOf x2 (j % x4).toNat).snd.fst (Go.Proofs.Ytbkginommedheaa.ptOf x2 (j % x4).toNat).snd.snd) (Go.Proofs.Ytbkginommedheaa.red (Go.Proofs.Ytbkginommedheaa.ptOf x2 (k % x4).toNat).fst (Go.Proofs.Ytbkginommedheaa.ptOf x2 (k % x4).toNat).snd.fst (Go.Proofs.Ytbkginommedheaa.ptOf x2 (k % x4).toNat).snd.snd)).snd.snd)).snd.fst % Go.Sx.M256, (Go.Proofs.Ytbkginommedheaa.csum x1 (0 : Nat) (Go.Proofs.Ytbkginommedheaa.red x5 x6 x7) (Go.Proofs.Ytbkginommedheaa.red (Go.Proofs.Ytbkginommedheaa.ptOf x2 (k % x4).toNat).fst (Go.Proofs.Ytbkginommedheaa.ptOf x2 (k % x4).toNat).snd.fst (Go.Proofs.Ytbkginommedheaa.ptOf x2 (k % x4).toNat).snd.snd)).snd.snd == (Go.Proofs.Ytbkginommedheaa.csum x1 (0 : Nat) (Go.Proofs.Ytbkginommedheaa.red (Go.Proofs.Ytbkginommedheaa.ptOf x2 (i % x4).toNat).fst (Go.Proofs.Ytbkginommedheaa.ptOf x2 (i % x4).toNat).snd.fst (Go.Proofs.Ytbkginommedheaa.ptOf x2 (i % x4).toNat).snd.snd) (Go.Proofs.Ytbkginommedheaa.red (Go.Proofs.Ytbkginommedheaa.csum x1 (0 : Nat) (Go.Proofs.Ytbkginommedheaa.red (Go.Proofs.Ytbkginommedheaa.ptOf x2 (j % x4).toNat).fst (Go.Proofs.Ytbkginommedheaa.ptOf x2 (j % x4).toNat).snd.fst (Go.Proofs.Ytbkginommedheaa.ptOf x2 (j % x4).toNat).snd.snd) (Go.Proofs.Ytbkginommedheaa.red (Go.Proofs.Ytbkginommedheaa.ptOf x2 (k % x4).toNat).fst (Go.Proofs.Ytbkginommedheaa.ptOf x2 (k % x4).toNat).snd.fst (Go.Proofs.Ytbkginommedheaa.ptOf x2 (k % x4).toNat).snd.snd)).fst (Go.Proofs.Ytbkginommedheaa.csum x1 (0 : Nat) (Go.Proofs.Ytbkginommedheaa.red (Go.Proofs.Ytbkginommedheaa.ptOf x2 (j % x4).toNat).fst (Go.Proofs.Ytbkginommedheaa.ptOf x2 (j % x4).toNat).snd.fst (Go.Proofs.Ytbkginommedheaa.ptOf x2 (j % x4).toNat).snd.snd) (Go.Proofs.Ytbkginommedheaa.red (Go.Proofs.Ytbkginommedheaa.ptOf x2 (k % x4).toNat).fst (Go.Proofs.Ytbkginommedheaa.ptOf x2 (k % x4).toNat).snd.fst (Go.Proofs.Ytbkginommedheaa.ptOf x2 (k % x4).toNat).snd.snd)).snd.fst (Go.Proofs.Ytbkginommedheaa.csum x1 (0 : Nat) (Go.Proofs.Ytbkginommedheaa.red (Go.Proofs.Ytbkginommedheaa.ptOf x2 (j % x4).toNat).fst (Go.Proofs.Ytbkginommedheaa.ptOf x2 (j % x4).toNat).snd.fst (Go.Proofs.Ytbkginommedheaa.ptOf x2 (j % x4).toNat).snd.snd) (Go.Proofs.Ytbkginommedheaa.red (Go.Proofs.Ytbkginommedheaa.ptOf x2 (k % x4).toNat).fst (Go.Proofs.Ytbkginommedheaa.ptOf x2 (k % x4).toNat).snd.fst (Go.Proofs.Ytbkginommedheaa.ptOf x2 (k % x4).toNat).snd.snd)).snd.snd)).snd.snd]; let x15 : Nat := x5 % Go.Sx.M256; let x16 : Nat := x6 % Go.Sx.M256; let x17 : Bool := x14 && Go.Sx.conj [x15 == (Go.Proofs.Ytbkginommedheaa.csum x1 (0 : Nat) (Go.Proofs.Ytbkginommedheaa.red (Go.Proofs.Ytbkginommedheaa.ptOf x2 (j % x4).toNat).fst (Go.Proofs.Ytbkginommedheaa.ptOf x2 (j % x4).toNat).snd.fst (Go.Proofs.Ytbkginommedheaa.ptOf x2 (j % x4).toNat).snd.snd) (Go.Proofs.Ytbkginommedheaa.red (Go.Proofs.Ytbkginommedheaa.ptOf x2 (i % x4).toNat).fst (Go.Proofs.Ytbkginommedheaa.ptOf x2 (i % x4).toNat).snd.fst (Go.Proofs.Ytbkginommedheaa.ptOf x2 (i % x4).toNat).snd.snd)).fst % Go.Sx.M256, x16 == (Go.Proofs.Ytbkginommedheaa.csum x1 (0 : Nat) (Go.Proofs.Ytbkginommedheaa.red (Go.Proofs.Ytbkginommedheaa.ptOf x2 (j % x4).toNat).fst (Go.Proofs.Ytbkginommedheaa.ptOf x2 (j % x4).toNat).snd.fst (Go.Proofs.Ytbkginommedheaa.ptOf x2 (j % x4).toNat).snd.snd) (Go.Proofs.Ytbkginommedheaa.red (Go.Proofs.Ytbkginommedheaa.ptOf x2 (i % x4).toNat).fst (Go.Proofs.Ytbkginommedheaa.ptOf x2 (i % x4).toNat).snd.fst (Go.Proofs.Ytbkginommedheaa.ptOf x2 (i % x4).toNat).snd.snd)).snd.fst % Go.Sx.M256, x7 == (Go.Proofs.Ytbkginommedheaa.csum x1 (0 : Nat) (Go.Proofs.Ytbkginommedheaa.red (Go.Proofs.Ytbkginommedheaa.ptOf x2 (j % x4).toNat).fst (Go.Proofs.Ytbkginommedheaa.ptOf x2 (j % x4).toNat).snd.fst (Go.Proofs.Ytbkginommedheaa.ptOf x2 (j % x4).toNat).snd.snd) (Go.Proofs.Ytbkginommedheaa.red (Go.Proofs.Ytbkginommedheaa.ptOf x2 (i % x4).toNat).fst (Go.Proofs.Ytbkginommedheaa.ptOf x2 (i % x4).toNat).snd.fst (Go.Proofs.Ytbkginommedheaa.ptOf x2 (i % x4).toNat).snd.snd)).snd.snd]; ((-9223372036854775808 : Int) ≤ n ∧ n ≤ (9223372036854775807 : Int)) ∧ Go.Proofs.Ytbkginommedheaa.isCv x2 (Go.Proofs.Ytbkginommedheaa.cP (Go.Proofs.Ytbkginommedheaa.ixN n)) (0 : Nat) (Go.Proofs.Ytbkginommedheaa.cB (Go.Proofs.Ytbkginommedheaa.ixN n)) (Go.Proofs.Ytbkginommedheaa.cN (Go.Proofs.Ytbkginommedheaa.ixN n)) (Go.Proofs.Ytbkginommedheaa.cX (Go.Proofs.Ytbkginommedheaa.ixN n)) (Go.Proofs.Ytbkginommedheaa.cY (Go.Proofs.Ytbkginommedheaa.ixN n)) Bool.false ∧ ((-9223372036854775808 : Int) ≤ i ∧ i ≤ (9223372036854775807 : Int)) ∧ Go.Proofs.Ytbkginommedheaa.isCv x2 (Go.Proofs.Ytbkginommedheaa.cP (Go.Proofs.Ytbkginommedheaa.ixN n)) (0 : Nat) (Go.Proofs.Ytbkginommedheaa.cB (Go.Proofs.Ytbkginommedheaa.ixN n)) (Go.Proofs.Ytbkginommedheaa.cN (Go.Proofs.Ytbkginommedheaa.ixN n)) (Go.Proofs.Ytbkginommedheaa.cX (Go.Proofs.Ytbkginommedheaa.ixN n)) (Go.Proofs.Ytbkginommedheaa.cY (Go.Proofs.Ytbkginommedheaa.ixN n)) Bool.false ∧ ((-9223372036854775808 : Int) ≤ j ∧ j ≤ (9223372036854775807 : Int)) ∧ Go.Proofs.Ytbkginommedheaa.isCv x2 (Go.Proofs.Ytbkginommedheaa.cP (Go.Proofs.Ytbkginommedheaa.ixN n)) (0 : Nat) (Go.Proofs.Ytbkginommedheaa.cB (Go.Proofs.Ytbkginommedheaa.ixN n)) (Go.Proofs.Ytbkginommedheaa.cN (Go.Proofs.Ytbkginommedheaa.ixN n)) (Go.Proofs.Ytbkginommedheaa.cX (Go.Proofs.Ytbkginommedheaa.ixN n)) (Go.Proofs.Ytbkginommedheaa.cY (Go.Proofs.Ytbkginommedheaa.ixN n)) Bool.false ∧ ((-9223372036854775808 : Int) ≤ k ∧ k ≤ (9223372036854775807 : Int)) ∧ Go.Proofs.Ytbkginommedheaa.goodP x1 (0 : Nat) x3 (Go.Proofs.Ytbkginommedheaa.cN (Go.Proofs.Ytbkginommedheaa.ixN n) % Go.Sx.M256) (Go.Proofs.Ytbkginommedheaa.red (Go.Proofs.Ytbkginommedheaa.cX (Go.Proofs.Ytbkginommedheaa.ixN n)) (Go.Proofs.Ytbkginommedheaa.cY (Go.Proofs.Ytbkginommedheaa.ixN n)) Bool.false) ∧ Go.Proofs.Ytbkginommedheaa.onP x1 (0 : Nat) x3 (Go.Proofs.Ytbkginommedheaa.red (Go.Proofs.Ytbkginommedheaa.ptOf x2 (i % x4).toNat).fst (Go.Proofs.Ytbkginommedheaa.ptOf x2 (i % x4).toNat).snd.fst (Go.Proofs.Ytbkginommedheaa.ptOf x2 (i % x4).toNat).snd.snd) ∧ Go.Proofs.Ytbkginommedheaa.onP x1 (0 : Nat) x3 (Go.Proofs.Ytbkginommedheaa.red (Go.Proofs.Ytbkginommedheaa.ptOf x2 (j % x4).toNat).fst (Go.Proofs.Ytbkginommedheaa.ptOf x2 (j % x4).toNat).snd.fst (Go.Proofs.Ytbkginommedheaa.ptOf x2 (j % x4).toNat).snd.snd) ∧ Go.Proofs.Ytbkginommedheaa.sumOK x1 (0 : Nat) (Go.Proofs.Ytbkginommedheaa.red (Go.Proofs.Ytbkginommedheaa.ptOf x2 (i % x4).toNat).fst (Go.Proofs.Ytbkginommedheaa.ptOf x2 (i % x4).toNat).snd.fst (Go.Proofs.Ytbkginommedheaa.ptOf x2 (i % x4).toNat).snd.snd) (Go.Proofs.Ytbkginommedheaa.red (Go.Proofs.Ytbkginommedheaa.ptOf x2 (j % x4).toNat).fst (Go.Proofs.Ytbkginommedheaa.ptOf x2 (j % x4).toNat).snd.fst (Go.Proofs.Ytbkginommedheaa.ptOf x2 (j % x4).toNat).snd.snd) ∧ Go.Proofs.Ytbkginommedheaa.goodP x1 (0 : Nat) x3 (Go.Proofs.Ytbkginommedheaa.cN (Go.Proofs.Ytbkginommedheaa.ixN n) % Go.Sx.M256) (Go.Proofs.Ytbkginommedheaa.red (Go.Proofs.Ytbkginommedheaa.cX (Go.Proofs.Ytbkginommedheaa.ixN n)) (Go.Proofs.Ytbkginommedheaa.cY (Go.Proofs.Ytbkginommedheaa.ixN n)) Bool.false) ∧ Go.Proofs.Ytbkginommedheaa.onP x1 (0 : Nat) x3 (Go.Proofs.Ytbkginommedheaa.red (Go.Proofs.Ytbkginommedheaa.ptOf x2 (j % x4).toNat).fst (Go.Proofs.Ytbkginommedheaa.ptOf x2 (j % x4).toNat).snd.fst (Go.Proofs.Ytbkginommedheaa.ptOf x2 (j % x4).toNat).snd.snd) ∧ Go.Proofs.Ytbkginommedheaa.onP x1 (0 : Nat) x3 (Go.Proofs.Ytbkginommedheaa.red (Go.Proofs.Ytbkginommedheaa.ptOf x2 (k % x4).toNat).fst (Go.Proofs.Ytbkginommedheaa.ptOf x2 (k % x4).toNat).snd.fst (Go.Proofs.Ytbkginommedheaa.ptOf x2 (k % x4).toNat).snd.snd) ∧ Go.Proofs.Ytbkginommedheaa.sumOK x1 (0 : Nat) (Go.Proofs.Ytbkginommedheaa.red (Go.Proofs.Ytbkginommedheaa.ptOf x2 (j % x4).toNat).fst (Go.Proofs.Ytbkginommedheaa.ptOf x2 (j % x4).toNat).snd.fst (Go.Proofs.Ytbkginommedheaa.ptOf x2 (j % x4).toNat).snd.snd) (Go.Proofs.Ytbkginommedheaa.red (Go.Proofs.Ytbkginommedheaa.ptOf x2 (k % x4).toNat).fst (Go.Proofs.Ytbkginommedheaa.ptOf x2 (k % x4).toNat).snd.fst (Go.Proofs.Ytbkginommedheaa.ptOf x2 (k % x4).toNat).snd.snd) ∧ Go.Proofs.Ytbkginommedheaa.goodP x1 (0 : Nat) x3 (Go.Proofs.Ytbkginommedheaa.cN (Go.Proofs.Ytbkginommedheaa.ixN n) % Go.Sx.M256) (Go.Proofs.Ytbkginommedheaa.red (Go.Proofs.Ytbkginommedheaa.cX (Go.Proofs.Ytbkginommedheaa.ixN n)) (Go.Proofs.Ytbkginommedheaa.cY (Go.Proofs.Ytbkginommedheaa.ixN n)) Bool.false) ∧ Go.Proofs.Ytbkginommedheaa.onP x1 (0 : Nat) x3 (Go.Proofs.Ytbkginommedheaa.red x5 x6 x7) ∧ Go.Proofs.Ytbkginommedheaa.onP x1 (0 : Nat) x3 (Go.Proofs.Ytbkginommedheaa.red (Go.Proofs.Ytbkginommedheaa.ptOf x2 (k % x4).toNat).fst (Go.Proofs.Ytbkginommedheaa.ptOf x2 (k % x4).toNat).snd.fst (Go.Proofs.Ytbkginommedheaa.ptOf x2 (k % x4).toNat).snd.snd) ∧ Go.Proofs.Ytbkginommedheaa.sumOK x1 (0 : Nat) (Go.Proofs.Ytbkginommedheaa.red x5 x6 x7) (Go.Proofs.Ytbkginommedheaa.red (Go.Proofs.Ytbkginommedheaa.ptOf x2 (k % x4).toNat).fst (Go.Proofs.Ytbkginommedheaa.ptOf x2 (k % x4).toNat).snd.fst (Go.Proofs.Ytbkginommedheaa.ptOf x2 (k % x4).toNat).snd.snd) ∧ Go.Proofs.Ytbkginommedheaa.goodP x1 (0 : Nat) x3 (Go.Proofs.Ytbkginommedheaa.cN (Go.Proofs.Ytbkginommedheaa.ixN n) % Go.Sx.M256) (Go.Proofs.Ytbkginommedheaa.red (Go.Proofs.Ytbkginommedheaa.cX (Go.Proofs.Ytbkginommedheaa.ixN n)) (Go.Proofs.Ytbkginommedheaa.cY (Go.Proofs.Ytbkginommedheaa.ixN n)) Bool.false) ∧ Go.Proofs.Ytbkginommedheaa.onP x1 (0 : Nat) x3 (Go.Proofs.Ytbkginommedheaa.red (Go.Proofs.Ytbkginommedheaa.ptOf x2 (i % x4).toNat).fst (Go.Proofs.Ytbkginommedheaa.ptOf x2 (i % x4).toNat).snd.fst (Go.Proofs.Ytbkginommedheaa.ptOf x2 (i % x4).toNat).snd.snd) ∧ Go.Proofs.Ytbkginommedheaa.onP x1 (0 : Nat) x3 (Go.Proofs.Ytbkginommedheaa.red (Go.Proofs.Ytbkginommedheaa.csum x1 (0 : Nat) (Go.Proofs.Ytbkginommedheaa.red (Go.Proofs.Ytbkginommedheaa.ptOf x2 (j % x4).toNat).fst (Go.Proofs.Ytbkginommedheaa.ptOf x2 (j % x4).toNat).snd.fst (Go.Proofs.Ytbkginommedheaa.ptOf x2 (j % x4).toNat).snd.snd) (Go.Proofs.Ytbkginommedheaa.red (Go.Proofs.Ytbkginommedheaa.ptOf x2 (k % x4).toNat).fst (Go.Proofs.Ytbkginommedheaa.ptOf x2 (k % x4).toNat).snd.fst (Go.Proofs.Ytbkginommedheaa.ptOf x2 (k % x4).toNat).snd.snd)).fst (Go.Proofs.Ytbkginommedheaa.csum x1 (0 : Nat) (Go.Proofs.Ytbkginommedheaa.red (Go.Proofs.Ytbkginommedheaa.ptOf x2 (j % x4).toNat).fst (Go.Proofs.Ytbkginommedheaa.ptOf x2 (j % x4).toNat).snd.fst (Go.Proofs.Ytbkginommedheaa.ptOf x2 (j % x4).toNat).snd.snd) (Go.Proofs.Ytbkginommedheaa.red (Go.Proofs.Ytbkginommedheaa.ptOf x2 (k % x4).toNat).fst (Go.Proofs.Ytbkginommedheaa.ptOf x2 (k % x4).toNat).snd.fst (Go.Proofs.Ytbkginommedheaa.ptOf x2 (k % x4).toNat).snd.snd)).snd.fst (Go.Proofs.Ytbkginommedheaa.csum x1 (0 : Nat) (Go.Proofs.Ytbkginommedheaa.red (Go.Proofs.Ytbkginommedheaa.ptOf x2 (j % x4).toNat).fst (Go.Proofs.Ytbkginommedheaa.ptOf x2 (j % x4).toNat).snd.fst (Go.Proofs.Ytbkginommedheaa.ptOf x2 (j % x4).toNat).snd.snd) (Go.Proofs.Ytbkginommedheaa.red (Go.Proofs.Ytbkginommedheaa.ptOf x2 (k % x4).toNat).fst (Go.Proofs.Ytbkginommedheaa.ptOf x2 (k % x4).toNat).snd.fst (Go.Proofs.Ytbkginommedheaa.ptOf x2 (k % x4).toNat).snd.snd)).snd.snd) ∧ Go.Proofs.Ytbkginommedheaa.sumOK x1 (0 : Nat) (Go.Proofs.Ytbkginommedheaa.red (Go.Proofs.Ytbkginommedheaa.ptOf x2 (i % x4).toNat).fst (Go.Proofs.Ytbkginommedheaa.ptOf x2 (i % x4).toNat).snd.fst (Go.Proofs.Ytbkginommedheaa.ptOf x2 (i % x4).toNat).snd.snd) (Go.Proofs.Ytbkginommedheaa.red (Go.Proofs.Ytbkginommedheaa.csum x1 (0 : Nat) (Go.Proofs.Ytbkginommedheaa.red (Go.Proofs.Ytbkginommedheaa.ptOf x2 (j % x4).toNat).fst (Go.Proofs.Ytbkginommedheaa.ptOf x2 (j % x4).toNat).snd.fst (Go.Proofs.Ytbkginommedheaa.ptOf x2 (j % x4).toNat).snd.snd) (Go.Proofs.Ytbkginommedheaa.red (Go.Proofs.Ytbkginommedheaa.ptOf x2 (k % x4).toNat).fst (Go.Proofs.Ytbkginommedheaa.ptOf x2 (k % x4).toNat).snd.fst (Go.Proofs.Ytbkginommedheaa.ptOf x2 (k % x4).toNat).snd.snd)).fst (Go.Proofs.Ytbkginommedheaa.csum x1 (0 : Nat) (Go.Proofs.Ytbkginommedheaa.red (Go.Proofs.Ytbkginommedheaa.ptOf x2 (j % x4).toNat).fst (Go.Proofs.Ytbkginommedheaa.ptOf x2 (j % x4).toNat).snd.fst (Go.Proofs.Ytbkginommedheaa.ptOf x2 (j % x4).toNat).snd.snd) (Go.Proofs.Ytbkginommedheaa.red (Go.Proofs.Ytbkginommedheaa.ptOf x2 (k % x4).toNat).fst (Go.Proofs.Ytbkginommedheaa.ptOf x2 (k % x4).toNat).snd.fst (Go.Proofs.Ytbkginommedheaa.ptOf x2 (k % x4).toNat).snd.snd)).snd.fst (Go.Proofs.Ytbkginommedheaa.csum x1 (0 : Nat) (Go.Proofs.Ytbkginommedheaa.red (Go.Proofs.Ytbkginommedheaa.ptOf x2 (j % x4).toNat).fst (Go.Proofs.Ytbkginommedheaa.ptOf x2 (j % x4).toNat).snd.fst (Go.Proofs.Ytbkginommedheaa.ptOf x2 (j % x4).toNat).snd.snd) (Go.Proofs.Ytbkginommedheaa.red (Go.Proofs.Ytbkginommedheaa.ptOf x2 (k % x4).toNat).fst (Go.Proofs.Ytbkginommedheaa.ptOf x2 (k % x4).toNat).snd.fst (Go.Proofs.Ytbkginommedheaa.ptOf x2 (k % x4).toNat).snd.snd)).snd.snd) ∧ Go.Proofs.Ytbkginommedheaa.goodP x1 (0 : Nat) x3 (Go.Proofs.Ytbkginommedheaa.cN (Go.Proofs.Ytbkginommedheaa.ixN n) % Go.Sx.M256) (Go.Proofs.Ytbkginommedheaa.red (Go.Proofs.Ytbkginommedheaa.cX (Go.Proofs.Ytbkginommedheaa.ixN n)) (Go.Proofs.Ytbkginommedheaa.cY (Go.Proofs.Ytbkginommedheaa.ixN n)) Bool.false) ∧ Go.Proofs.Ytbkginommedheaa.onP x1 (0 : Nat) x3 (Go.Proofs.Ytbkginommedheaa.red (Go.Proofs.Ytbkginommedheaa.ptOf x2 (j % x4).toNat).fst (Go.Proofs.Ytbkginommedheaa.ptOf x2 (j % x4).toNat).snd.fst (Go.Proofs.Ytbkginommedheaa.ptOf x2 (j % x4).toNat).snd.snd) ∧ Go.Proofs.Ytbkginommedheaa.onP x1 (0 : Nat) x3 (Go.Proofs.Ytbkginommedheaa.red (Go.Proofs.Ytbkginommedheaa.ptOf x2 (i % x4).toNat).fst (Go.Proofs.Ytbkginommedheaa.ptOf x2 (i % x4).toNat).snd.fst (Go.Proofs.Ytbkginommedheaa.ptOf x2 (i % x4).toNat).snd.snd) ∧ Go.Proofs.Ytbkginommedheaa.sumOK x1 (0 : Nat) (Go.Proofs.Ytbkginommedheaa.red (Go.Proofs.Ytbkginommedheaa.ptOf x2 (j % x4).toNat).fst (Go.Proofs.Ytbkginommedheaa.ptOf x2 (j % x4).toNat).snd.fst (Go.Proofs.Ytbkginommedheaa.ptOf x2 (j % x4).toNat).snd.snd) (Go.Proofs.Ytbkginommedheaa.red (Go.Proofs.Ytbkginommedheaa.ptOf x2 (i % x4).toNat).fst (Go.Proofs.Ytbkginommedheaa.ptOf x2 (i % x4).toNat).snd.fst (Go.Proofs.Ytbkginommedheaa.ptOf x2 (i % x4).toNat).snd.snd) ∧ (Bool.true = Bool.true → Bool.true = Bool.true) ∧ (Bool.true = Bool.true → Bool.true = Bool.true) ∧ (x9 = Bool.true → x9 = Bool.true) ∧ (x9 = Bool.true → x9 = Bool.true) ∧ (x10 = Bool.true → x10 = Bool.true) ∧ (x10 = Bool.true → x10 = Bool.true) ∧ (x11 = Bool.true → x11 = Bool.true) ∧ (x11 = Bool.true → x11 = Bool.true) ∧ (x12 = Bool.true → x12 = Bool.true) ∧ (x12 = Bool.true → x12 = Bool.true) ∧ (x13 = Bool.true → x13 = Bool.true) ∧ (x13 = Bool.true → x13 = Bool.true) ∧ (x13 = Bool.true → x13 = Bool.true) ∧ (x14 = Bool.true → x14 = Bool.true) ∧ (x14 = Bool.true → x14 = Bool.true) ∧ (x14 = Bool.true → x14 = Bool.true) ∧ (x17 = Bool.true → x17 = Bool.true) ∧ (x17 = Bool.true → x17 = Bool.true) ∧ (x17 = Bool.true → Go.Proofs.Ytbkginommedheaa.goodP x1 (0 : Nat) x3 (Go.Proofs.Ytbkginommedheaa.cN (Go.Proofs.Ytbkginommedheaa.ixN n) % Go.Sx.M256) (Go.Proofs.Ytbkginommedheaa.red (Go.Proofs.Ytbkginommedheaa.cX (Go.Proofs.Ytbkginommedheaa.ixN n)) (Go.Proofs.Ytbkginommedheaa.cY (Go.Proofs.Ytbkginommedheaa.ixN n)) Bool.false)) ∧ (x17 = Bool.true → x7 = Bool.true → x15 = (0 : Nat) ∧ x16 = (0 : Nat)) ∧ (x17 = Bool.true → x7 = Bool.false → x15 < x1 ∧ x16 < x1) ∧ (x17 = Bool.true → x17 = Bool.true) ∧ (x17 = Bool.true → x17 = Bool.true) ∧ (x17 && Go.Proofs.Ytbkginommedheaa.onE x1 (0 : Nat) x3 (Go.Proofs.Ytbkginommedheaa.red x5 x6 x7) == (0 : Int)) = Bool.true) := by kernel_rfl
-- END VC
-- VC vc_CurveBack HASH a4b7efeba1231209
theorem vc_CurveBack (n i : Int) :
    Owes Try.prog cxCB [] 100 Try.f7 [sI .i64 n, sI .i64 i] yes =
    (let x1 : Nat := Go.Proofs.Ytbkginommedheaa.cP (Go.Proofs.Ytbkginommedheaa.ixN n) % Go.Sx.M256; let x2 : Nat := Go.Proofs.Ytbkginommedheaa.ixP x1; let x3 : Bool := (Go.Proofs.Ytbkginommedheaa.ptOf x2 (i % (↑(Go.Proofs.Ytbkginommedheaa.cN x2) : Int)).toNat).snd.snd; let x4 : Nat := Go.Proofs.Ytbkginommedheaa.cB (Go.Proofs.Ytbkginommedheaa.ixN n) % Go.Sx.M256; let x5 : Nat := (Go.Proofs.Ytbkginommedheaa.ptOf x2 (i % (↑(Go.Proofs.Ytbkginommedheaa.cN x2) : Int)).toNat).fst; let x6 : Nat := (Go.Proofs.Ytbkginommedheaa.ptOf x2 (i % (↑(Go.Proofs.Ytbkginommedheaa.cN x2) : Int)).toNat).snd.fst; let x7 : Int := Go.Proofs.Ytbkginommedheaa.fE (0 : Nat) x6 (Go.Proofs.Ytbkginommedheaa.cP (Go.Proofs.Ytbkginommedheaa.ixN n)); let x8 : Nat := x6 % Go.Sx.M256; let x9 : Nat := if x7 = (0 : Int) then ((0 : Nat) + x1 - x8) % x1 else (0 : Nat); let x10 : Int := Go.IntKind.u64.wrap (Go.Sx.limb (Go.Proofs.Ytbkginommedheaa.cN (Go.Proofs.Ytbkginommedheaa.ixN n)) (0 : Nat) - (1 : Int)); let x11 : Nat := Go.Sx.join x10 (0 : Int) (0 : Int) (0 : Int) % Go.Sx.M256; let x12 : Bool := (0 : Int) == (0 : Int); let x13 : Bool := Bool.true && x12; let x14 : Bool := x13 && x12; let x15 : Bool := x14 && x12; let x16 : Bool := x15 && Go.Sx.conj [(Go.Proofs.Ytbkginommedheaa.csum x1 (0 : Nat) (Go.Proofs.Ytbkginommedheaa.red x5 x6 x3) (Go.Proofs.Ytbkginommedheaa.red x5 x9 x3)).fst % Go.Sx.M256 == (0 : Nat), (Go.Proofs.Ytbkginommedheaa.csum x1 (0 : Nat) (Go.Proofs.Ytbkginommedheaa.red x5 x6 x3) (Go.Proofs.Ytbkginommedheaa.red x5 x9 x3)).snd.fst % Go.Sx.M256 == (0 : Nat), (Go.Proofs.Ytbkginommedheaa.csum x1 (0 : Nat) (Go.Proofs.Ytbkginommedheaa.red x5 x6 x3) (Go.Proofs.Ytbkginommedheaa.red x5 x9 x3)).snd.snd == Bool.true]; let x17 : Nat := x5 % Go.Sx.M256; let x18 : Bool := Go.Sx.conj [(Go.Proofs.Ytbkginommedheaa.csum x1 (0 : Nat) (Go.Proofs.Ytbkginommedheaa.red x5 x6 x3) (Go.Proofs.Ytbkginommedheaa.red (0 : Nat) (0 : Nat) Bool.true)).fst % Go.Sx.M256 == x17, (Go.Proofs.Ytbkginommedheaa.csum x1 (0 : Nat) (Go.Proofs.Ytbkginommedheaa.red x5 x6 x3) (Go.Proofs.Ytbkginommedheaa.red (0 : Nat) (0 : Nat) Bool.true)).snd.fst % Go.Sx.M256 == x8, (Go.Proofs.Ytbkginommedheaa.csum x1 (0 : Nat) (Go.Proofs.Ytbkginommedheaa.red x5 x6 x3) (Go.Proofs.Ytbkginommedheaa.red (0 : Nat) (0 : Nat) Bool.true)).snd.snd == x3]; let x19 : Bool := x16 && x18; let x20 : Bool := x15 && Go.Sx.conj [(Go.Proofs.Ytbkginommedheaa.csum x1 (0 : Nat) (Go.Proofs.Ytbkginommedheaa.red x5 x6 x3) (Go.Proofs.Ytbkginommedheaa.red x5 x6 x3)).fst % Go.Sx.M256 == (0 : Nat), (Go.Proofs.Ytbkginommedheaa.csum x1 (0 : Nat) (Go.Proofs.Ytbkginommedheaa.red x5 x6 x3) (Go.Proofs.Ytbkginommedheaa.red x5 x6 x3)).snd.fst % Go.Sx.M256 == (0 : Nat), (Go.Proofs.Ytbkginommedheaa.csum x1 (0 : Nat) (Go.Proofs.Ytbkginommedheaa.red x5 x6 x3) (Go.Proofs.Ytbkginommedheaa.red x5 x6 x3)).snd.snd == Bool.true]; let x21 : Bool := x20 && x18; ((-9223372036854775808 : Int) ≤ n ∧ n ≤ (9223372036854775807 : Int)) ∧ Go.Proofs.Ytbkginommedheaa.isCv x2 (Go.Proofs.Ytbkginommedheaa.cP (Go.Proofs.Ytbkginommedheaa.ixN n)) (0 : Nat) (Go.Proofs.Ytbkginommedheaa.cB (Go.Proofs.Ytbkginommedheaa.ixN n)) (Go.Proofs.Ytbkginommedheaa.cN (Go.Proofs.Ytbkginommedheaa.ixN n)) (Go.Proofs.Ytbkginommedheaa.cX (Go.Proofs.Ytbkginommedheaa.ixN n)) (Go.Proofs.Ytbkginommedheaa.cY (Go.Proofs.Ytbkginommedheaa.ixN n)) Bool.false ∧ ((-9223372036854775808 : Int) ≤ i ∧ i ≤ (9223372036854775807 : Int)) ∧ ((!x3) = Bool.true → Go.Proofs.Ytbkginommedheaa.goodP x1 (0 : Nat) x4 (Go.Proofs.Ytbkginommedheaa.cN (Go.Proofs.Ytbkginommedheaa.ixN n) % Go.Sx.M256) (Go.Proofs.Ytbkginommedheaa.red (Go.Proofs.Ytbkginommedheaa.cX (Go.Proofs.Ytbkginommedheaa.ixN n)) (Go.Proofs.Ytbkginommedheaa.cY (Go.Proofs.Ytbkginommedheaa.ixN n)) Bool.false) ∧ Go.Proofs.Ytbkginommedheaa.onP x1 (0 : Nat) x4 (Go.Proofs.Ytbkginommedheaa.red x5 x6 x3) ∧ Go.Proofs.Ytbkginommedheaa.onP x1 (0 : Nat) x4 (Go.Proofs.Ytbkginommedheaa.red x5 x9 x3) ∧ Go.Proofs.Ytbkginommedheaa.sumOK x1 (0 : Nat) (Go.Proofs.Ytbkginommedheaa.red x5 x6 x3) (Go.Proofs.Ytbkginommedheaa.red x5 x9 x3) ∧ Go.Proofs.Ytbkginommedheaa.goodP x1 (0 : Nat) x4 (Go.Proofs.Ytbkginommedheaa.cN (Go.Proofs.Ytbkginommedheaa.ixN n) % Go.Sx.M256) (Go.Proofs.Ytbkginommedheaa.red (Go.Proofs.Ytbkginommedheaa.cX (Go.Proofs.Ytbkginommedheaa.ixN n)) (Go.Proofs.Ytbkginommedheaa.cY (Go.Proofs.Ytbkginommedheaa.ixN n)) Bool.false) ∧ Go.Proofs.Ytbkginommedheaa.onP x1 (0 : Nat) x4 (Go.Proofs.Ytbkginommedheaa.red x5 x6 x3) ∧ Go.Proofs.Ytbkginommedheaa.onP x1 (0 : Nat) x4 (Go.Proofs.Ytbkginommedheaa.red (0 : Nat) (0 : Nat) Bool.true) ∧ Go.Proofs.Ytbkginommedheaa.sumOK x1 (0 : Nat) (Go.Proofs.Ytbkginommedheaa.red x5 x6 x3) (Go.Proofs.Ytbkginommedheaa.red (0 : Nat) (0 : Nat) Bool.true) ∧ ((0 : Int) ≤ x10 ∧ x10 < (18446744073709551616 : Int)) ∧ ((0 : Int) ≤ (0 : Int) ∧ (0 : Int) < (18446744073709551616 : Int)) ∧ ((0 : Int) ≤ (0 : Int) ∧ (0 : Int) < (18446744073709551616 : Int)) ∧ ((0 : Int) ≤ (0 : Int) ∧ (0 : Int) < (18446744073709551616 : Int)) ∧ Go.Proofs.Ytbkginommedheaa.goodP x1 (0 : Nat) x4 (Go.Proofs.Ytbkginommedheaa.cN (Go.Proofs.Ytbkginommedheaa.ixN n) % Go.Sx.M256) (Go.Proofs.Ytbkginommedheaa.red (Go.Proofs.Ytbkginommedheaa.cX (Go.Proofs.Ytbkginommedheaa.ixN n)) (Go.Proofs.Ytbkginommedheaa.cY (Go.Proofs.Ytbkginommedheaa.ixN n)) Bool.false) ∧ Go.Proofs.Ytbkginommedheaa.onP x1 (0 : Nat) x4 (Go.Proofs.Ytbkginommedheaa.red x5 x6 x3) ∧ Go.Proofs.Ytbkginommedheaa.mulOK x1 (0 : Nat) x11 (Go.Proofs.Ytbkginommedheaa.red x5 x6 x3) ∧ (Bool.true = Bool.true → Bool.true = Bool.true) ∧ (Bool.true = Bool.true → Bool.true = Bool.true) ∧ (x13 = Bool.true → x13 = Bool.true) ∧ (x13 = Bool.true → x13 = Bool.true) ∧ (x14 = Bool.true → x14 = Bool.true) ∧ (x14 = Bool.true → x14 = Bool.true) ∧ (x15 = Bool.true → x15 = Bool.true) ∧ (x15 = Bool.true → x15 = Bool.true) ∧ (x15 = Bool.true → x15 = Bool.true) ∧ (x16 = Bool.true → x16 = Bool.true) ∧ (x16 = Bool.true → x16 = Bool.true) ∧ (x16 = Bool.true → x16 = Bool.true) ∧ (x19 = Bool.true → x19 = Bool.true) ∧ (x19 = Bool.true → x19 = Bool.true) ∧ (x19 = Bool.true → x19 = Bool.true) ∧ (x19 && Go.Sx.conj [(Go.Proofs.Ytbkginommedheaa.cmulR x1 (0 : Nat) x11 (Go.Proofs.Ytbkginommedheaa.red x5 x6 x3) (256 : Nat)).fst % Go.Sx.M256 == x17, (Go.Proofs.Ytbkginommedheaa.cmulR x1 (0 : Nat) x11 (Go.Proofs.Ytbkginommedheaa.red x5 x6 x3) (256 : Nat)).snd.fst % Go.Sx.M256 == x9 % Go.Sx.M256, (Go.Proofs.Ytbkginommedheaa.cmulR x1 (0 : Nat) x11 (Go.Proofs.Ytbkginommedheaa.red x5 x6 x3) (256 : Nat)).snd.snd == x3]) = Bool.true) ∧ ((!x3) = Bool.false → Go.Proofs.Ytbkginommedheaa.goodP x1 (0 : Nat) x4 (Go.Proofs.Ytbkginommedheaa.cN (Go.Proofs.Ytbkginommedheaa.ixN n) % Go.Sx.M256) (Go.Proofs.Ytbkginommedheaa.red (Go.Proofs.Ytbkginommedheaa.cX (Go.Proofs.Ytbkginommedheaa.ixN n)) (Go.Proofs.Ytbkginommedheaa.cY (Go.Proofs.Ytbkginommedheaa.ixN n)) Bool.false) ∧ Go.Proofs.Ytbkginommedheaa.onP x1 (0 : Nat) x4 (Go.Proofs.Ytbkginommedheaa.red x5 x6 x3) ∧ Go.Proofs.Ytbkginommedheaa.onP x1 (0 : Nat) x4 (Go.Proofs.Ytbkginommedheaa.red x5 x6 x3) ∧ Go.Proofs.Ytbkginommedheaa.sumOK x1 (0 : Nat) (Go.Proofs.Ytbkginommedheaa.red x5 x6 x3) (Go.Proofs.Ytbkginommedheaa.red x5 x6 x3) ∧ Go.Proofs.Ytbkginommedheaa.goodP x1 (0 : Nat) x4 (Go.Proofs.Ytbkginommedheaa.cN (Go.Proofs.Ytbkginommedheaa.ixN n) % Go.Sx.M256) (Go.Proofs.Ytbkginommedheaa.red (Go.Proofs.Ytbkginommedheaa.cX (Go.Proofs.Ytbkginommedheaa.ixN n)) (Go.Proofs.Ytbkginommedheaa.cY (Go.Proofs.Ytbkginommedheaa.ixN n)) Bool.false) ∧ Go.Proofs.Ytbkginommedheaa.onP x1 (0 : Nat) x4 (Go.Proofs.Ytbkginommedheaa.red x5 x6 x3) ∧ Go.Proofs.Ytbkginommedheaa.onP x1 (0 : Nat) x4 (Go.Proofs.Ytbkginommedheaa.red (0 : Nat) (0 : Nat) Bool.true) ∧ Go.Proofs.Ytbkginommedheaa.sumOK x1 (0 : Nat) (Go.Proofs.Ytbkginommedheaa.red x5 x6 x3) (Go.Proofs.Ytbkginommedheaa.red (0 : Nat) (0 : Nat) Bool.true) ∧ ((0 : Int) ≤ x10 ∧ x10 < (18446744073709551616 : Int)) ∧ ((0 : Int) ≤ (0 : Int) ∧ (0 : Int) < (18446744073709551616 : Int)) ∧ ((0 : Int) ≤ (0 : Int) ∧ (0 : Int) < (18446744073709551616 : Int)) ∧ ((0 : Int) ≤ (0 : Int) ∧ (0 : Int) < (18446744073709551616 : Int)) ∧ Go.Proofs.Ytbkginommedheaa.goodP x1 (0 : Nat) x4 (Go.Proofs.Ytbkginommedheaa.cN (Go.Proofs.Ytbkginommedheaa.ixN n) % Go.Sx.M256) (Go.Proofs.Ytbkginommedheaa.red (Go.Proofs.Ytbkginommedheaa.cX (Go.Proofs.Ytbkginommedheaa.ixN n)) (Go.Proofs.Ytbkginommedheaa.cY (Go.Proofs.Ytbkginommedheaa.ixN n)) Bool.false) ∧ Go.Proofs.Ytbkginommedheaa.onP x1 (0 : Nat) x4 (Go.Proofs.Ytbkginommedheaa.red x5 x6 x3) ∧ Go.Proofs.Ytbkginommedheaa.mulOK x1 (0 : Nat) x11 (Go.Proofs.Ytbkginommedheaa.red x5 x6 x3) ∧ (Bool.true = Bool.true → Bool.true = Bool.true) ∧ (Bool.true = Bool.true → Bool.true = Bool.true) ∧ (x13 = Bool.true → x13 = Bool.true) ∧ (x13 = Bool.true → x13 = Bool.true) ∧ (x14 = Bool.true → x14 = Bool.true) ∧ (x14 = Bool.true → x14 = Bool.true) ∧ (x15 = Bool.true → x15 = Bool.true) ∧ (x15 = Bool.true → x15 = Bool.true) ∧ (x15 = Bool.true → x15 = Bool.true) ∧ (x20 = Bool.true → x20 = Bool.true) ∧ (x20 = Bool.true → x20 = Bool.true) ∧ (x20 = Bool.true → x20 = Bool.true) ∧ (x21 = Bool.true → x21 = Bool.true) ∧ (x21 = Bool.true → x21 = Bool.true) ∧ (x21 = Bool.true → x21 = Bool.true) ∧ (x21 && Go.Sx.conj [(Go.Proofs.Ytbkginommedheaa.cmulR x1 (0 : Nat) x11 (Go.Proofs.Ytbkginommedheaa.red x5 x6 x3) (256 : Nat)).fst % Go.Sx.M256 == x17, (Go.Proofs.Ytbkginommedheaa.cmulR x1 (0 : Nat) x11 (Go.Proofs.Ytbkginommedheaa.red x5 x6 x3) (256 : Nat)).snd.fst % Go.Sx.M256 == x8, (Go.Proofs.Ytbkginommedheaa.cmulR x1 (0 : Nat) x11 (Go.Proofs.Ytbkginommedheaa.red x5 x6 x3) (256 : Nat)).snd.snd == x3]) = Bool.true)) := by kernel_rfl
-- END VC
-- VC vc_MultAdds HASH b7ccb4e4406ca3e9
theorem vc_MultAdds (n i : Int) (k a b : Int) (s : ByteArray) (k' a' b' : Int) (s' : ByteArray) :
    Owes Try.prog cxMA [] 100 Try.f8 [sI .i64 n, sI .i64 i, sRaw k a b s, sRaw k' a' b' s'] yes =
    (let x1 : Nat := Go.Proofs.Ytbkginommedheaa.cP (Go.Proofs.Ytbkginommedheaa.ixN n) % Go.Sx.M256; let x2 : Nat := Go.Proofs.Ytbkginommedheaa.ixP x1; let x3 : Nat := Go.Proofs.Ytbkginommedheaa.cB (Go.Proofs.Ytbkginommedheaa.ixN n) % Go.Sx.M256; let x4 : Nat := Go.Proofs.Ytbkginommedheaa.cN (Go.Proofs.Ytbkginommedheaa.ixN n) % Go.Sx.M256; let x5 : Nat := Go.Sx.rawN k a b % Go.Sx.M256; let x6 : Nat := if x4 = (0 : Nat) then (0 : Nat) else Go.Sx.rawN k' a' b' % Go.Sx.M256 % x4; let x7 : Nat := x6 % Go.Sx.M256; let x8 : Nat := if x4 = (0 : Nat) then (0 : Nat) else x5 % x4; let x9 : Int := Go.Proofs.Ytbkginommedheaa.fE x8 x6 (Go.Proofs.Ytbkginommedheaa.cN (Go.Proofs.Ytbkginommedheaa.ixN n)); let x10 : Nat := x8 % Go.Sx.M256; let x11 : Nat := (if x9 = (0 : Int) then (x10 + x7) % x4 else (0 : Nat)) % Go.Sx.M256; let x12 : Nat := (if x9 = (0 : Int) then x10 * x7 % x4 else (0 : Nat)) % Go.Sx.M256; let x13 : Bool := (0 : Int) == (0 : Int); let x14 : Bool := Bool.true && x13; let x15 : Bool := x14 && x13; let x16 : Bool := x15 && x13; let x17 : Bool := x16 && x13; let x18 : Bool := x17 && x13; let x19 : Bool := x18 && x13; let x20 : Bool := x19 && Go.Sx.conj [(Go.Proofs.Ytbkginommedheaa.csum x1 (0 : Nat) (Go.Proofs.Ytbkginommedheaa.red (Go.Proofs.Ytbkginommedheaa.cmulR x1 (0 : Nat) x5 (Go.Proofs.Ytbkginommedheaa.red (Go.Proofs.Ytbkginommedheaa.ptOf x2 (i % (↑(Go.Proofs.Ytbkginommedheaa.cN x2) : Int)).toNat).fst (Go.Proofs.Ytbkginommedheaa.ptOf x2 (i % (↑(Go.Proofs.Ytbkginommedheaa.cN x2) : Int)).toNat).snd.fst (Go.Proofs.Ytbkginommedheaa.ptOf x2 (i % (↑(Go.Proofs.Ytbkginommedheaa.cN x2) : Int)).toNat).snd.snd) (256 : Nat)).fst (Go.Proofs.Ytbkginommedheaa.cmulR x1 (0 : Nat) x5 (Go.Proofs.Ytbkginommedheaa.red (Go.Proofs.Ytbkginommedheaa.ptOf x2 (i % (↑(Go.Proofs.Ytbkginommedheaa.cN x2) : Int)).toNat).fst (Go.Proofs.Ytbkginommedheaa.ptOf x2 (i % (↑(Go.Proofs.Ytbkginommedheaa.cN x2) : Int)).toNat).snd.fst (Go.Proofs.Ytbkginommedheaa.ptOf x2 (i % (↑(Go.Proofs.Ytbkginommedheaa.cN x2) : Int)).toNat).snd.snd) (256 : Nat)).snd.fst (Go.Proofs.Ytbkginommedheaa.cmulR x1 (0 : Nat) x5 (Go.Proofs.Ytbkginommedheaa.red (Go.Proofs.Ytbkginommedheaa.ptOf x2 (i % (↑(Go.Proofs.Ytbkginommedheaa.cN x2) : Int)).toNat).fst (Go.Proofs.Ytbkginommedheaa.ptOf x2 (i % (↑(Go.Proofs.Ytbkginommedheaa.cN x2) : Int)).toNat).snd.fst (Go.Proofs.Ytbkginommedheaa.ptOf x2 (i % (↑(Go.Proofs.Ytbkginommedheaa.cN x2) : Int)).toNat).snd.snd) (256 : Nat)).snd.snd) (Go.Proofs.Ytbkginommedheaa.red (Go.Proofs.Ytbkginommedheaa.cmulR x1 (0 : Nat) x7 (Go.Proofs.Ytbkginommedheaa.red (Go.Proofs.Ytbkginommedheaa.ptOf x2 (i % (↑(Go.Proofs.Ytbkginommedheaa.cN x2) : Int)).toNat).fst (Go.Proofs.Ytbkginommedheaa.ptOf x2 (i % (↑(Go.Proofs.Ytbkginommedheaa.cN x2) : Int)).toNat).snd.fst (Go.Proofs.Ytbkginommedheaa.ptOf x2 (i % (↑(Go.Proofs.Ytbkginommedheaa.cN x2) : Int)).toNat).snd.snd) (256 : Nat)).fst (Go.Proofs.Ytbkginommedheaa.cmulR x1 (0 : Nat) x7 (Go.Proofs.Ytbkginommedheaa.red (Go.Proofs.Ytbkginommedheaa.ptOf x2 (i % (↑(Go.Proofs.Ytbkginommedheaa.cN x2) : Int)).toNat).fst (Go.Proofs.Ytbkginommedheaa.ptOf x2 (i % (↑(Go.Proofs.Ytbkginommedheaa.cN x2) : Int)).toNat).snd.fst (Go.Proofs.Ytbkginommedheaa.ptOf x2 (i % (↑(Go.Proofs.Ytbkginommedheaa.cN x2) : Int)).toNat).snd.snd) (256 : Nat)).snd.fst (Go.Proofs.Ytbkginommedheaa.cmulR x1 (0 : Nat) x7 (Go.Proofs.Ytbkginommedheaa.red (Go.Proofs.Ytbkginommedheaa.ptOf x2 (i % (↑(Go.Proofs.Ytbkginommedheaa.cN x2) : Int)).toNat).fst (Go.Proofs.Ytbkginommedheaa.ptOf x2 (i % (↑(Go.Proofs.Ytbkginommedheaa.cN x2) : Int)).toNat).snd.fst (Go.Proofs.Ytbkginommedheaa.ptOf x2 (i % (↑(Go.Proofs.Ytbkginommedheaa.cN x2) : Int)).toNat).snd.snd) (256 : Nat)).snd.snd)).fst % Go.Sx.M256 == (Go.Proofs.Ytbkginommedheaa.cmulR x1 (0 : Nat) x11 (Go.Proofs.Ytbkginommedheaa.red (Go.Proofs.Ytbkginommedheaa.ptOf x2 (i % (↑(Go.Proofs.Ytbkginommedheaa.cN x2) : Int)).toNat).fst (Go.Proofs.Ytbkginommedheaa.ptOf x2 (i % (↑(Go.Proofs.Ytbkginommedheaa.cN x2) : Int)).toNat).snd.fst (Go.Proofs.Ytbkginommedheaa.ptOf x2 (i % (↑(Go.Proofs.Ytbkginommedheaa.cN x2) : Int)).toNat).snd.snd) (256 : Nat)).fst % Go.Sx.M256, (Go.Proofs.Ytbkginommedheaa.csum x1 (0 : Nat) (Go.Proofs.Ytbkginommedheaa.red (Go.Proofs.Ytbkginommedheaa.cmulR x1 (0 : Nat) x5 (Go.Proofs.Ytbkginommedheaa.red (Go.Proofs.Ytbkginommedheaa.ptOf x2 (i % (↑(Go.Proofs.Ytbkginommedheaa.cN x2) : Int)).toNat).fst (Go.Proofs.Ytbkginommedheaa.ptOf x2 (i % (↑(Go.Proofs.Ytbkginommedheaa.cN x2) : Int)).toNat).snd.fst (Go.Proofs.Ytbkginommedheaa.ptOf x2 (i % (↑(Go.Proofs.Ytbkginommedheaa.cN x2) : Int)).toNat).snd.snd) (256 : Nat)).fst (Go.Proofs.Ytbkginommedheaa.cmulR x1 (0 : Nat) x5 (Go.Proofs.Ytbkginommedheaa.red (Go.Proofs.Ytbkginommedheaa.ptOf x2 (i % (↑(Go.Proofs.Ytbkginommedheaa.cN x2) : Int)).toNat).fst (Go.Proofs.Ytbkginommedheaa.ptOf x2 (i % (↑(Go.Proofs.Ytbkginommedheaa.cN x2) : Int)).toNat).snd.fst (Go.Proofs.Ytbkginommedheaa.ptOf x2 (i % (↑(Go.Proofs.Ytbkginommedheaa.cN x2) : Int)).toNat).snd.snd) (256 : Nat)).snd.fst (Go.Proofs.Ytbkginommedheaa.cmulR x1 (0 : Nat) x5 (Go.Proofs.Ytbkginommedheaa.red (Go.Proofs.Ytbkginommedheaa.ptOf x2 (i % (↑(Go.Proofs.Ytbkginommedheaa.cN x2) : Int)).toNat).fst (Go.Proofs.Ytbkginommedheaa.ptOf x2 (i % (↑(Go.Proofs.Ytbkginommedheaa.cN x2) : Int)).toNat).snd.fst (Go.Proofs.Ytbkginommedheaa.ptOf x2 (i % (↑(Go.Proofs.Ytbkginommedheaa.cN x2) : Int)).toNat).snd.snd) (256 : Nat)).snd.snd) (Go.Proofs.Ytbkginommedheaa.red (Go.Proofs.Ytbkginommedheaa.cmulR x1 (0 : Nat) x7 (Go.Proofs.Ytbkginommedheaa.red (Go.Proofs.Ytbkginommedheaa.ptOf x2 (i % (↑(Go.Proofs.Ytbkginommedheaa.cN x2) : Int)).toNat).fst (Go.Proofs.Ytbkginommedheaa.ptOf x2 (i % (↑(Go.Proofs.Ytbkginommedheaa.cN x2) : Int)).toNat).snd.fst (Go.Proofs.Ytbkginommedheaa.ptOf x2 (i % (↑(Go.Proofs.Ytbkginommedheaa.cN x2) : Int)).toNat).snd.snd) (256 : Nat)).fst (Go.Proofs.Ytbkginommedheaa.cmulR x1 (0 : Nat) x7 (Go.Proofs.Ytbkginommedheaa.red (Go.Proofs.Ytbkginommedheaa.ptOf x2 (i % (↑(Go.Proofs.Ytbkginommedheaa.cN x2) : Int)).toNat).fst (Go.Proofs.Ytbkginommedheaa.ptOf x2 (i % (↑(Go.Proofs.Ytbkginommedheaa.cN x2) : Int)).toNat).snd.fst (Go.Proofs.Ytbkginommedheaa.ptOf x2 (i % (↑(Go.Proofs.Ytbkginommedheaa.cN x2) : Int)).toNat).snd.snd) (256 : Nat)).snd.fst (Go.Proofs.Ytbkginommedheaa.cmulR x1 (0 : Nat) x7 (Go.Proofs.Ytbkginommedheaa.red (Go.Proofs.Ytbkginommedheaa.ptOf x2 (i % (↑(Go.Proofs.Ytbkginommedheaa.cN x2) : Int)).toNat).fst (Go.Proofs.Ytbkginommedheaa.ptOf x2 (i % (↑(Go.Proofs.Ytbkginommedheaa.cN x2) : Int)).toNat).snd.fst (Go.Proofs.Ytbkginommedheaa.ptOf x2 (i % (↑(Go.Proofs.Ytbkginommedheaa.cN x2) : Int)).toNat).snd.snd) (256 : Nat)).snd.snd)).snd.fst % Go.Sx.M256 == (Go.Proofs.Ytbkginommedheaa.cmulR x1 (0 : Nat) x11 (Go.Proofs.Ytbkginommedheaa.red (Go.Proofs.Ytbkginommedheaa.ptOf x2 (i % (↑(Go.Proofs.Ytbkginommedheaa.cN x2) : Int)).toNat).fst (Go.Proofs.Ytbkginommedheaa.ptOf x2 (i % (↑(Go.Proofs.Ytbkginommedheaa.cN x2) : Int)).toNat).snd.fst (Go.Proofs.Ytbkginommedheaa.ptOf x2 (i % (↑(Go.Proofs.Ytbkginommedheaa.cN x2) : Int)).toNat).snd.snd) (256 : Nat)).snd.fst % Go.Sx.M256, (Go.Proofs.Ytbkginommedheaa.csum x1 (0 : Nat) (Go.Proofs.Ytbkginommedheaa.red (Go.Proofs.Ytbkginommedheaa.cmulR x1 (0 : Nat) x5 (Go.Proofs.Ytbkginommedheaa.red (Go.Proofs.Ytbkginommedheaa.ptOf x2 (i % (↑(Go.Proofs.Ytbkginommedheaa.cN x2) : Int)).toNat).fst (Go.Proofs.Ytbkginommedheaa.ptOf x2 (i % (↑(Go.Proofs.Ytbkginommedheaa.cN x2) : Int)).toNat).snd.fst (Go.Proofs.Ytbkginommedheaa.ptOf x2 (i % (↑(Go.Proofs.Ytbkginommedheaa.cN x2) : Int)).toNat).snd.snd) (256 : Nat)).fst (Go.Proofs.Ytbkginommedheaa.cmulR x1 (0 : Nat) x5 (Go.Proofs.Ytbkginommedheaa.red (Go.Proofs.Ytbkginommedheaa.ptOf x2 (i % (↑(Go.Proofs.Ytbkginommedheaa.cN x2) : Int)).toNat).fst (Go.Proofs.Ytbkginommedheaa.ptOf x2 (i % (↑(Go.Proofs.Ytbkginommedheaa.cN x2) : Int)).toNat).snd.fst (Go.Proofs.Ytbkginommedheaa.ptOf x2 (i % (↑(Go.Proofs.Ytbkginommedheaa.cN x2) : Int)).toNat).snd.snd) (256 : Nat)).snd.fst (Go.Proofs.Ytbkginommedheaa.cmulR x1 (0 : Nat) x5 (Go.Proofs.Ytbkginommedheaa.red (Go.Proofs.Ytbkginommedheaa.ptOf x2 (i % (↑(Go.Proofs.Ytbkginommedheaa.cN x2) : Int)).toNat).fst (Go.Proofs.Ytbkginommedheaa.ptOf x2 (i % (↑(Go.Proofs.Ytbkginommedheaa.cN x2) : Int)).toNat).snd.fst (Go.Proofs.Ytbkginommedheaa.ptOf x2 (i % (↑(Go.Proofs.Ytbkginommedheaa.cN x2) : Int)).toNat).snd.snd) (256 : Nat)).snd.snd) (Go.Proofs.Ytbkginommedheaa.red (Go.Proofs.Ytbkginommedheaa.cmulR x1 (0 : Nat) x7 (Go.Proofs.Ytbkginommedheaa.red (Go.Proofs.Ytbkginommedheaa.ptOf x2 (i % (↑(Go.Proofs.Ytbkginommedheaa.cN x2) : Int)).toNat).fst (Go.Proofs.Ytbkginommedheaa.ptOf x2 (i % (↑(Go.Proofs.Ytbkginommedheaa.cN x2) : Int)).toNat).snd.fst (Go.Proofs.Ytbkginommedheaa.ptOf x2 (i % (↑(Go.Proofs.Ytbkginommedheaa.cN x2) : Int)).toNat).snd.snd) (256 : Nat)).fst (Go.Proofs.Ytbkginommedheaa.cmulR x1 (0 : Nat) x7 (Go.Proofs.Ytbkginommedheaa.red (Go.Proofs.Ytbkginommedheaa.ptOf x2 (i % (↑(Go.Proofs.Ytbkginommedheaa.cN x2) : Int)).toNat).fst (Go.Proofs.Ytbkginommedheaa.ptOf x2 (i % (↑(Go.Proofs.Ytbkginommedheaa.cN x2) : Int)).toNat).snd.fst (Go.Proofs.Ytbkginommedheaa.ptOf x2 (i % (↑(Go.Proofs.Ytbkginommedheaa.cN x2) : Int)).toNat).snd.snd) (256 : Nat)).snd.fst (Go.Proofs.Ytbkginommedheaa.cmulR x1 (0 : Nat) x7 (Go.Proofs.Ytbkginommedheaa.red (Go.Proofs.Ytbkginommedheaa.ptOf x2 (i % (↑(Go.Proofs.Ytbkginommedheaa.cN x2) : Int)).toNat).fst (Go.Proofs.Ytbkginommedheaa.ptOf x2 (i % (↑(Go.Proofs.Ytbkginommedheaa.cN x2) : Int)).toNat).snd.fst (Go.Proofs.Ytbkginommedheaa.ptOf x2 (i % (↑(Go.Proofs.Ytbkginommedheaa.cN x2) : Int)).toNat).snd.snd) (256 : Nat)).snd.snd)).snd.snd == (Go.Proofs.Ytbkginommedheaa.cmulR x1 (0 : Nat) x11 (Go.Proofs.Ytbkginommedheaa.red (Go.Proofs.Ytbkginommedheaa.ptOf x2 (i % (↑(Go.Proofs.Ytbkginommedheaa.cN x2) : Int)).toNat).fst (Go.Proofs.Ytbkginommedheaa.ptOf x2 (i % (↑(Go.Proofs.Ytbkginommedheaa.cN x2) : Int)).toNat).snd.fst (Go.Proofs.Ytbkginommedheaa.ptOf x2 (i % (↑(Go.Proofs.Ytbkginommedheaa.cN x2) : Int)).toNat).snd.snd) (256 : Nat)).snd.snd]; ((-9223372036854775808 : Int) ≤ n ∧ n ≤ (9223372036854775807 : Int)) ∧ Go.Proofs.Ytbkginommedheaa.isCv x2 (Go.Proofs.Ytbkginommedheaa.cP (Go.Proofs.Ytbkginommedheaa.ixN n)) (0 : Nat) (Go.Proofs.Ytbkginommedheaa.cB (Go.Proofs.Ytbkginommedheaa.ixN n)) (Go.Proofs.Ytbkginommedheaa.cN (Go.Proofs.Ytbkginommedheaa.ixN n)) (Go.Proofs.Ytbkginommedheaa.cX (Go.Proofs.Ytbkginommedheaa.ixN n)) (Go.Proofs.Ytbkginommedheaa.cY (Go.Proofs.Ytbkginommedheaa.ixN n)) Bool.false ∧ ((-9223372036854775808 : Int) ≤ i ∧ i ≤ (9223372036854775807 : Int)) ∧ ((-9223372036854775808 : Int) ≤ k ∧ k ≤ (9223372036854775807 : Int)) ∧ ((-9223372036854775808 : Int) ≤ a ∧ a ≤ (9223372036854775807 : Int)) ∧ ((-9223372036854775808 : Int) ≤ b ∧ b ≤ (9223372036854775807 : Int)) ∧ ((-9223372036854775808 : Int) ≤ k' ∧ k' ≤ (9223372036854775807 : Int)) ∧ ((-9223372036854775808 : Int) ≤ a' ∧ a' ≤ (9223372036854775807 : Int)) ∧ ((-9223372036854775808 : Int) ≤ b' ∧ b' ≤ (9223372036854775807 : Int)) ∧ ((-9223372036854775808 : Int) ≤ k ∧ k ≤ (9223372036854775807 : Int)) ∧ ((-9223372036854775808 : Int) ≤ a ∧ a ≤ (9223372036854775807 : Int)) ∧ ((-9223372036854775808 : Int) ≤ b ∧ b ≤ (9223372036854775807 : Int)) ∧ Go.Proofs.Ytbkginommedheaa.goodP x1 (0 : Nat) x3 x4 (Go.Proofs.Ytbkginommedheaa.red (Go.Proofs.Ytbkginommedheaa.cX (Go.Proofs.Ytbkginommedheaa.ixN n)) (Go.Proofs.Ytbkginommedheaa.cY (Go.Proofs.Ytbkginommedheaa.ixN n)) Bool.false) ∧ Go.Proofs.Ytbkginommedheaa.onP x1 (0 : Nat) x3 (Go.Proofs.Ytbkginommedheaa.red (Go.Proofs.Ytbkginommedheaa.ptOf x2 (i % (↑(Go.Proofs.Ytbkginommedheaa.cN x2) : Int)).toNat).fst (Go.Proofs.Ytbkginommedheaa.ptOf x2 (i % (↑(Go.Proofs.Ytbkginommedheaa.cN x2) : Int)).toNat).snd.fst (Go.Proofs.Ytbkginommedheaa.ptOf x2 (i % (↑(Go.Proofs.Ytbkginommedheaa.cN x2) : Int)).toNat).snd.snd) ∧ Go.Proofs.Ytbkginommedheaa.mulOK x1 (0 : Nat) x5 (Go.Proofs.Ytbkginommedheaa.red (Go.Proofs.Ytbkginommedheaa.ptOf x2 (i % (↑(Go.Proofs.Ytbkginommedheaa.cN x2) : Int)).toNat).fst (Go.Proofs.Ytbkginommedheaa.ptOf x2 (i % (↑(Go.Proofs.Ytbkginommedheaa.cN x2) : Int)).toNat).snd.fst (Go.Proofs.Ytbkginommedheaa.ptOf x2 (i % (↑(Go.Proofs.Ytbkginommedheaa.cN x2) : Int)).toNat).snd.snd) ∧ Go.Proofs.Ytbkginommedheaa.goodP x1 (0 : Nat) x3 x4 (Go.Proofs.Ytbkginommedheaa.red (Go.Proofs.Ytbkginommedheaa.cX (Go.Proofs.Ytbkginommedheaa.ixN n)) (Go.Proofs.Ytbkginommedheaa.cY (Go.Proofs.Ytbkginommedheaa.ixN n)) Bool.false) ∧ Go.Proofs.Ytbkginommedheaa.onP x1 (0 : Nat) x3 (Go.Proofs.Ytbkginommedheaa.red (Go.Proofs.Ytbkginommedheaa.ptOf x2 (i % (↑(Go.Proofs.Ytbkginommedheaa.cN x2) : Int)).toNat).fst (Go.Proofs.Ytbkginommedheaa.ptOf x2 (i % (↑(Go.Proofs.Ytbkginommedheaa.cN x2) : Int)).toNat).snd.fst (Go.Proofs.Ytbkginommedheaa.ptOf x2 (i % (↑(Go.Proofs.Ytbkginommedheaa.cN x2) : Int)).toNat).snd.snd) ∧ Go.Proofs.Ytbkginommedheaa.mulOK x1 (0 : Nat) x7 (Go.Proofs.Ytbkginommedheaa.red (Go.Proofs.Ytbkginommedheaa.ptOf x2 (i % (↑(Go.Proofs.Ytbkginommedheaa.cN x2) : Int)).toNat).fst (Go.Proofs.Ytbkginommedheaa.ptOf x2 (i % (↑(Go.Proofs.Ytbkginommedheaa.cN x2) : Int)).toNat).snd.fst (Go.Proofs.Ytbkginommedheaa.ptOf x2 (i % (↑(Go.Proofs.Ytbkginommedheaa.cN x2) : Int)).toNat).snd.snd) ∧ Go.Proofs.Ytbkginommedheaa.goodP x1 (0 : Nat) x3 x4 (Go.Proofs.Ytbkginommedheaa.red (Go.Proofs.Ytbkginommedheaa.cX (Go.Proofs.Ytbkginommedheaa.ixN n)) (Go.Proofs.Ytbkginommedheaa.cY (Go.Proofs.Ytbkginommedheaa.ixN n)) Bool.false) ∧ Go.Proofs.Ytbkginommedheaa.onP x1 (0 : Nat) x3 (Go.Proofs.Ytbkginommedheaa.red (Go.Proofs.Ytbkginommedheaa.cmulR x1 (0 : Nat) x5 (Go.Proofs.Ytbkginommedheaa.red (Go.Proofs.Ytbkginommedheaa.ptOf x2 (i % (↑(Go.Proofs.Ytbkginommedheaa.cN x2) : Int)).toNat).fst (Go.Proofs.Ytbkginommedheaa.ptOf x2 (i % (↑(Go.Proofs.Ytbkginommedheaa.cN x2) : Int)).toNat).snd.fst (Go.Proofs.Ytbkginommedheaa.ptOf x2 (i % (↑(Go.Proofs.Ytbkginommedheaa.cN x2) : Int)).toNat).snd.snd) (256 : Nat)).fst (Go.Proofs.Ytbkginommedheaa.cmulR x1 (0 : Nat) x5 (Go.Proofs.Ytbkginommedheaa.red (Go.Proofs.Ytbkginommedheaa.ptOf x2 (i % (↑(Go.Proofs.Ytbkginommedheaa.cN x2) : Int)).toNat).fst (Go.Proofs.Ytbkginommedheaa.ptOf x2 (i % (↑(Go.Proofs.Ytbkginommedheaa.cN x2) : Int)).toNat).snd.fst (Go.Proofs.Ytbkginommedheaa.ptOf x2 (i % (↑(Go.Proofs.Ytbkginommedheaa.cN x2) : Int)).toNat).snd.snd) (256 : Nat)).snd.fst (Go.Proofs.Ytbkginommedheaa.cmulR x1 (0 : Nat) x5 (Go.Proofs.Ytbkginommedheaa.red (Go.Proofs.Ytbkginommedheaa.ptOf x2 (i % (↑(Go.Proofs.Ytbkginommedheaa.cN x2) : Int)).toNat).fst (Go.Proofs.Ytbkginommedheaa.ptOf x2 (i % (↑(Go.Proofs.Ytbkginommedheaa.cN x2) : Int)).toNat).snd.fst (Go.Proofs.Ytbkginommedheaa.ptOf x2 (i % (↑(Go.Proofs.Ytbkginommedheaa.cN x2) : Int)).toNat).snd.snd) (256 : Nat)).snd.snd) ∧ Go.Proofs.Ytbkginommedheaa.onP x1 (0 : Nat) x3 (Go.Proofs.Ytbkginommedheaa.red (Go.Proofs.Ytbkginommedheaa.cmulR x1 (0 : Nat) x7 (Go.Proofs.Ytbkginommedheaa.red (Go.Proofs.Ytbkginommedheaa.ptOf x2 (i % (↑(Go.Proofs.Ytbkginommedheaa.cN x2) : Int)).toNat).fst (Go.Proofs.Ytbkginommedheaa.ptOf x2 (i % (↑(Go.Proofs.Ytbkginommedheaa.cN x2) : Int)).toNat).snd.fst (Go.Proofs.Ytbkginommedheaa.ptOf x2 (i % (↑(Go.Proofs.Ytbkginommedheaa.cN x2) : Int)).toNat).snd.snd) (256 : Nat)).fst (Go.Proofs.Ytbkginommedheaa.cmulR x1 (0 : Nat) x7 (Go.Proofs.Ytbkginommedheaa.red (Go.Proofs.Ytbkginommedheaa.ptOf x2 (i % (↑(Go.Proofs.Ytbkginommedheaa.cN x2) : Int)).toNat).fst (Go.Proofs.Ytbkginommedheaa.ptOf x2 (i % (↑(Go.Proofs.Ytbkginommedheaa.cN x2) : Int)).toNat).snd.fst (Go.Proofs.Ytbkginommedheaa.ptOf x2 (i % (↑(Go.Proofs.Ytbkginommedheaa.cN x2) : Int)).toNat).snd.snd) (256 : Nat)).snd.fst (Go.Proofs.Ytbkginommedheaa.cmulR x1 (0 : Nat) x7 (Go.Proofs.Ytbkginommedheaa.red (Go.Proofs.Ytbkginommedheaa.ptOf x2 (i % (↑(Go.Proofs.Ytbkginommedheaa.cN x2) : Int)).toNat).fst (Go.Proofs.Ytbkginommedheaa.ptOf x2 (i % (↑(Go.Proofs.Ytbkginommedheaa.cN x2) : Int)).toNat).snd.fst (Go.Proofs.Ytbkginommedheaa.ptOf x2 (i % (↑(Go.Proofs.Ytbkginommedheaa.cN x2) : Int)).toNat).snd.snd) (256 : Nat)).snd.snd) ∧ Go.Proofs.Ytbkginommedheaa.sumOK x1 (0 : Nat) (Go.Proofs.Ytbkginommedheaa.red (Go.Proofs.Ytbkginommedheaa.cmulR x1 (0 : Nat) x5 (Go.Proofs.Ytbkginommedheaa.red (Go.Proofs.Ytbkginommedheaa.ptOf x2 (i % (↑(Go.Proofs.Ytbkginommedheaa.cN x2) : Int)).toNat).fst (Go.Proofs.Ytbkginommedheaa.ptOf x2 (i % (↑(Go.Proofs.Ytbkginommedheaa.cN x2) : Int)).toNat).snd.fst (Go.Proofs.Ytbkginommedheaa.ptOf x2 (i % (↑(Go.Proofs.Ytbkginommedheaa.cN x2) : Int)).toNat).snd.snd) (256 : Nat)).fst (Go.Proofs.Ytbkginommedheaa.cmulR x1 (0 : Nat) x5 (Go.Proofs.Ytbkginommedheaa.red (Go.Proofs.Ytbkginommedheaa.ptOf x2 (i % (↑(Go.Proofs.Ytbkginommedheaa.cN x2) : Int)).toNat).fst (Go.Proofs.Ytbkginommedheaa.ptOf x2 (i % (↑(Go.Proofs.Ytbkginommedheaa.cN x2) : Int)).toNat).snd.fst (Go.Proofs.Ytbkginommedheaa.ptOf x2 (i % (↑(Go.Proofs.Ytbkginommedheaa.cN x2) : Int)).toNat).snd.snd) (256 : Nat)).snd.fst (Go.Proofs.Ytbkginommedheaa.cmulR x1 (0 : Nat) x5 (Go.Proofs.Ytbkginommedheaa.red (Go.Proofs.Ytbkginommedheaa.ptOf x2 (i % (↑(Go.Proofs.Ytbkginommedheaa.cN x2) : Int)).toNat).fst (Go.Proofs.Ytbkginommedheaa.ptOf x2 (i % (↑(Go.Proofs.Ytbkginommedheaa.cN x2) : Int)).toNat).snd.fst (Go.Proofs.Ytbkginommedheaa.ptOf x2 (i % (↑(Go.Proofs.Ytbkginommedheaa.cN x2) : Int)).toNat).snd.snd) (256 : Nat)).snd.snd) (Go.Proofs.Ytbkginommedheaa.red (Go.Proofs.Ytbkginommedheaa.cmulR x1 (0 : Nat) x7 (Go.Proofs.Ytbkginommedheaa.red (Go.Proofs.Ytbkginommedheaa.ptOf x2 (i % (↑(Go.Proofs.Ytbkginommedheaa.cN x2) : Int)).toNat).fst (Go.Proofs.Ytbkginommedheaa.ptOf x2 (i % (↑(Go.Proofs.Ytbkginommedheaa.cN x2) : Int)).toNat).snd.fst (Go.Proofs.Ytbkginommedheaa.ptOf x2 (i % (↑(Go.Proofs.Ytbkginommedheaa.cN x2) : Int)).toNat).snd.snd) (256 : Nat)).fst (Go.Proofs.Ytbkginommedheaa.cmulR x1 (0 : Nat) x7 (Go.Proofs.Ytbkginommedheaa.red (Go.Proofs.Ytbkginommedheaa.ptOf x2 (i % (↑(Go.Proofs.Ytbkginommedheaa.cN x2) : Int)).toNat).fst (Go.Proofs.Ytbkginommedheaa.ptOf x2 (i % (↑(Go.Proofs.Ytbkginommedheaa.cN x2) : Int)).toNat).snd.fst (Go.Proofs.Ytbkginommedheaa.ptOf x2 (i % (↑(Go.Proofs.Ytbkginommedheaa.cN x2) : Int)).toNat).snd.snd) (256 : Nat)).snd.fst (Go.Proofs.Ytbkginommedheaa.cmulR x1 (0 : Nat) x7 (Go.Proofs.Ytbkginommedheaa.red (Go.Proofs.Ytbkginommedheaa.ptOf x2 (i % (↑(Go.Proofs.Ytbkginommedheaa.cN x2) : Int)).toNat).fst (Go.Proofs.Ytbkginommedheaa.ptOf x2 (i % (↑(Go.Proofs.Ytbkginommedheaa.cN x2) : Int)).toNat).snd.fst (Go.Proofs.Ytbkginommedheaa.ptOf x2 (i % (↑(Go.Proofs.Ytbkginommedheaa.cN x2) : Int)).toNat).snd.snd) (256 : Nat)).snd.snd) ∧ Go.Proofs.Ytbkginommedheaa.goodP x1 (0 : Nat) x3 x4 (Go.Proofs.Ytbkginommedheaa.red (Go.Proofs.Ytbkginommedheaa.cX (Go.Proofs.Ytbkginommedheaa.ixN n)) (Go.Proofs.Ytbkginommedheaa.cY (Go.Proofs.Ytbkginommedheaa.ixN n)) Bool.false) ∧ Go.Proofs.Ytbkginommedheaa.onP x1 (0 : Nat) x3 (Go.Proofs.Ytbkginommedheaa.red (Go.Proofs.Ytbkginommedheaa.ptOf x2 (i % (↑(Go.Proofs.Ytbkginommedheaa.cN x2) : Int)).toNat).fst (Go.Proofs.Ytbkginommedheaa.ptOf x2 (i % (↑(Go.Proofs.Ytbkginommedheaa.cN x2) : Int)).toNat).snd.fst (Go.Proofs.Ytbkginommedheaa.ptOf x2 (i % (↑(Go.Proofs.Ytbkginommedheaa.cN x2) : Int)).toNat).snd.snd) ∧ Go.Proofs.Ytbkginommedheaa.mulOK x1 (0 : Nat) x11 (Go.Proofs.Ytbkginommedheaa.red (Go.Proofs.Ytbkginommedheaa.ptOf x2 (i % (↑(Go.Proofs.Ytbkginommedheaa.cN x2) : Int)).toNat).fst (Go.Proofs.Ytbkginommedheaa.ptOf x2 (i % (↑(Go.Proofs.Ytbkginommedheaa.cN x2) : Int)).toNat).snd.fst (Go.Proofs.Ytbkginommedheaa.ptOf x2 (i % (↑(Go.Proofs.Ytbkginommedheaa.cN x2) : Int)).toNat).snd.snd) ∧ Go.Proofs.Ytbkginommedheaa.goodP x1 (0 : Nat) x3 x4 (Go.Proofs.Ytbkginommedheaa.red (Go.Proofs.Ytbkginommedheaa.cX (Go.Proofs.Ytbkginommedheaa.ixN n)) (Go.Proofs.Ytbkginommedheaa.cY (Go.Proofs.Ytbkginommedheaa.ixN n)) Bool.false) ∧ Go.Proofs.Ytbkginommedheaa.onP x1 (0 : Nat) x3 (Go.Proofs.Ytbkginommedheaa.red (Go.Proofs.Ytbkginommedheaa.ptOf x2 (i % (↑(Go.Proofs.Ytbkginommedheaa.cN x2) : Int)).toNat).fst (Go.Proofs.Ytbkginommedheaa.ptOf x2 (i % (↑(Go.Proofs.Ytbkginommedheaa.cN x2) : Int)).toNat).snd.fst (Go.Proofs.Ytbkginommedheaa.ptOf x2 (i % (↑(Go.Proofs.Ytbkginommedheaa.cN x2) : Int)).toNat).snd.snd) ∧ Go.Proofs.Ytbkginommedheaa.mulOK x1 (0 : Nat) x12 (Go.Proofs.Ytbkginommedheaa.red (Go.Proofs.Ytbkginommedheaa.ptOf x2 (i % (↑(Go.Proofs.Ytbkginommedheaa.cN x2) : Int)).toNat).fst (Go.Proofs.Ytbkginommedheaa.ptOf x2 (i % (↑(Go.Proofs.Ytbkginommedheaa.cN x2) : Int)).toNat).snd.fst (Go.Proofs.Ytbkginommedheaa.ptOf x2 (i % (↑(Go.Proofs.Ytbkginommedheaa.cN x2) : Int)).toNat).snd.snd) ∧ Go.Proofs.Ytbkginommedheaa.goodP x1 (0 : Nat) x3 x4 (Go.Proofs.Ytbkginommedheaa.red (Go.Proofs.Ytbkginommedheaa.cX (Go.Proofs.Ytbkginommedheaa.ixN n)) (Go.Proofs.Ytbkginommedheaa.cY (Go.Proofs.Ytbkginommedheaa.ixN n)) Bool.false) ∧ Go.Proofs.Ytbkginommedheaa.onP x1 (0 : Nat) x3 (Go.Proofs.Ytbkginommedheaa.red (Go.Proofs.Ytbkginommedheaa.cmulR x1 (0 : Nat) x7 (Go.Proofs.Ytbkginommedheaa.red (Go.Proofs.Ytbkginommedheaa.ptOf x2 (i % (↑(Go.Proofs.Ytbkginommedheaa.cN x2) : Int)).toNat).fst (Go.Proofs.Ytbkginommedheaa.ptOf x2 (i % (↑(Go.Proofs.Ytbkginommedheaa.cN x2) : Int)).toNat).snd.fst (Go.Proofs.Ytbkginommedheaa.ptOf x2 (i % (↑(Go.Proofs.Ytbkginommedheaa.cN x2) : Int)).toNat).snd.snd) (256 : Nat)).fst (Go.Proofs.Ytbkginommedheaa.cmulR x1 (0 : Nat) x7 (Go.Proofs.Ytbkginommedheaa.red (Go.Proofs.Ytbkginommedheaa.ptOf x2 (i % (↑(Go.Proofs.Ytbkginommedheaa.cN x2) : Int)).toNat).fst (Go.Proofs.Ytbkginommedheaa.ptOf x2 (i % (↑(Go.Proofs.Ytbkginommedheaa.cN x2) : Int)).toNat).snd.fst (Go.Proofs.Ytbkginommedheaa.ptOf x2 (i % (↑(Go.Proofs.Ytbkginommedheaa.cN x2) : Int)).toNat).snd.snd) (256 : Nat)).snd.fst (Go.Proofs.Ytbkginommedheaa.cmulR x1 (0 : Nat) x7 (Go.Proofs.Ytbkginommedheaa.red (Go.Proofs.Ytbkginommedheaa.ptOf x2 (i % (↑(Go.Proofs.Ytbkginommedheaa.cN x2) : Int)).toNat).fst (Go.Proofs.Ytbkginommedheaa.ptOf x2 (i % (↑(Go.Proofs.Ytbkginommedheaa.cN x2) : Int)).toNat).snd.fst (Go.Proofs.Ytbkginommedheaa.ptOf x2 (i % (↑(Go.Proofs.Ytbkginommedheaa.cN x2) : Int)).toNat).snd.snd) (256 : Nat)).snd.snd) ∧ Go.Proofs.Ytbkginommedheaa.mulOK x1 (0 : Nat) x10 (Go.Proofs.Ytbkginommedheaa.red (Go.Proofs.Ytbkginommedheaa.cmulR x1 (0 : Nat) x7 (Go.Proofs.Ytbkginommedheaa.red (Go.Proofs.Ytbkginommedheaa.ptOf x2 (i % (↑(Go.Proofs.Ytbkginommedheaa.cN x2) : Int)).toNat).fst (Go.Proofs.Ytbkginommedheaa.ptOf x2 (i % (↑(Go.Proofs.Ytbkginommedheaa.cN x2) : Int)).toNat).snd.fst (Go.Proofs.Ytbkginommedheaa.ptOf x2 (i % (↑(Go.Proofs.Ytbkginommedheaa.cN x2) : Int)).toNat).snd.snd) (256 : Nat)).fst (Go.Proofs.Ytbkginommedheaa.cmulR x1 (0 : Nat) x7 (Go.Proofs.Ytbkginommedheaa.red (Go.Proofs.Ytbkginommedheaa.ptOf x2 (i % (↑(Go.Proofs.Ytbkginommedheaa.cN x2) : Int)).toNat).fst (Go.Proofs.Ytbkginommedheaa.ptOf x2 (i % (↑(Go.Proofs.Ytbkginommedheaa.cN x2) : Int)).toNat).snd.fst (Go.Proofs.Ytbkginommedheaa.ptOf x2 (i % (↑(Go.Proofs.Ytbkginommedheaa.cN x2) : Int)).toNat).snd.snd) (256 : Nat)).snd.fst (Go.Proofs.Ytbkginommedheaa.cmulR x1 (0 : Nat) x7 (Go.Proofs.Ytbkginommedheaa.red (Go.Proofs.Ytbkginommedheaa.ptOf x2 (i % (↑(Go.Proofs.Ytbkginommedheaa.cN x2) : Int)).toNat).fst (Go.Proofs.Ytbkginommedheaa.ptOf x2 (i % (↑(Go.Proofs.Ytbkginommedheaa.cN x2) : Int)).toNat).snd.fst (Go.Proofs.Ytbkginommedheaa.ptOf x2 (i % (↑(Go.Proofs.Ytbkginommedheaa.cN x2) : Int)).toNat).snd.snd) (256 : Nat)).snd.snd) ∧ (Bool.true = Bool.true → Bool.true = Bool.true) ∧ (Bool.true = Bool.true → Bool.true = Bool.true) ∧ (x14 = Bool.true → x14 = Bool.true) ∧ (x14 = Bool.true → x14 = Bool.true) ∧ (x15 = Bool.true → x15 = Bool.true) ∧ (x15 = Bool.true → x15 = Bool.true) ∧ (x16 = Bool.true → x16 = Bool.true) ∧ (x16 = Bool.true → x16 = Bool.true) ∧ (x17 = Bool.true → x17 = Bool.true) ∧ (x17 = Bool.true → x17 = Bool.true) ∧ (x18 = Bool.true → x18 = Bool.true) ∧ (x18 = Bool.true → x18 = Bool.true) ∧ (x19 = Bool.true → x19 = Bool.true) ∧ (x19 = Bool.true → x19 = Bool.true) ∧ (x19 = Bool.true → x19 = Bool.true) ∧ (x20 = Bool.true → x20 = Bool.true) ∧ (x20 = Bool.true → x20 = Bool.true) ∧ (x20 = Bool.true → x20 = Bool.true) ∧ (x20 && Go.Sx.conj [(Go.Proofs.Ytbkginommedheaa.cmulR x1 (0 : Nat) x12 (Go.Proofs.Ytbkginommedheaa.red (Go.Proofs.Ytbkginommedheaa.ptOf x2 (i % (↑(Go.Proofs.Ytbkginommedheaa.cN x2) : Int)).toNat).fst (Go.Proofs.Ytbkginommedheaa.ptOf x2 (i % (↑(Go.Proofs.Ytbkginommedheaa.cN x2) : Int)).toNat).snd.fst (Go.Proofs.Ytbkginommedheaa.ptOf x2 (i % (↑(Go.Proofs.Ytbkginommedheaa.cN x2) : Int)).toNat).snd.snd) (256 : Nat)).fst % Go.Sx.M256 == (Go.Proofs.Ytbkginommedheaa.cmulR x1 (0 : Nat) x10 (Go.Proofs.Ytbkginommedheaa.red (Go.Proofs.Ytbkginommedheaa.cmulR x1 (0 : Nat) x7 (Go.Proofs.Ytbkginommedheaa.red (Go.Proofs.Ytbkginommedheaa.ptOf x2 (i % (↑(Go.Proofs.Ytbkginommedheaa.cN x2) : Int)).toNat).fst (Go.Proofs.Ytbkginommedheaa.ptOf x2 (i % (↑(Go.Proofs.Ytbkginommedheaa.cN x2) : Int)).toNat).snd.fst (Go.Proofs.Ytbkginommedheaa.ptOf x2 (i % (↑(Go.Proofs.Ytbkginommedheaa.cN x2) : Int)).toNat).snd.snd) (256 : Nat)).fst (Go.Proofs.Ytbkginommedheaa.cmulR x1 (0 : Nat) x7 (Go.Proofs.Ytbkginommedheaa.red (Go.Proofs.Ytbkginommedheaa.ptOf x2 (i % (↑(Go.Proofs.Ytbkginommedheaa.cN x2) : Int)).toNat).fst (Go.Proofs.Ytbkginommedheaa.ptOf x2 (i % (↑(Go.Proofs.Ytbkginommedheaa.cN x2) : Int)).toNat).snd.fst (Go.Proofs.Ytbkginommedheaa.ptOf x2 (i % (↑(Go.Proofs.Ytbkginommedheaa.cN x2) : Int)).toNat).snd.snd) (256 : Nat)).snd.fst (Go.Proofs.Ytbkginommedheaa.cmulR x1 (0 : Nat) x7 (Go.Proofs.Ytbkginommedheaa.red (Go.Proofs.Ytbkginommedheaa.ptOf x2 (i % (↑(Go.Proofs.Ytbkginommedheaa.cN x2) : Int)).toNat).fst (Go.Proofs.Ytbkginommedheaa.ptOf x2 (i % (↑(Go.Proofs.Ytbkginommedheaa.cN x2) : Int)).toNat).snd.fst (Go.Proofs.Ytbkginommedheaa.ptOf x2 (i % (↑(Go.Proofs.Ytbkginommedheaa.cN x2) : Int)).toNat).snd.snd) (256 : Nat)).snd.snd) (256 : Nat)).fst % Go.Sx.M256, (Go.Proofs.Ytbkginommedheaa.cmulR x1 (0 : Nat) x12 (Go.Proofs.Ytbkginommedheaa.red (Go.Proofs.Ytbkginommedheaa.ptOf x2 (i % (↑(Go.Proofs.Ytbkginommedheaa.cN x2) : Int)).toNat).fst (Go.Proofs.Ytbkginommedheaa.ptOf x2 (i % (↑(Go.Proofs.Ytbkginommedheaa.cN x2) : Int)).toNat).snd.fst (Go.Proofs.Ytbkginommedheaa.ptOf x2 (i % (↑(Go.Proofs.Ytbkginommedheaa.cN x2) : Int)).toNat).snd.snd) (256 : Nat)).snd.fst % Go.Sx.M256 == (Go.Proofs.Ytbkginommedheaa.cmulR x1 (0 : Nat) x10 (Go.Proofs.Ytbkginommedheaa.red (Go.Proofs.Ytbkginommedheaa.cmulR x1 (0 : Nat) x7 (Go.Proofs.Ytbkginommedheaa.red (Go.Proofs.Ytbkginommedheaa.ptOf x2 (i % (↑(Go.Proofs.Ytbkginommedheaa.cN x2) : Int)).toNat).fst (Go.Proofs.Ytbkginommedheaa.ptOf x2 (i % (↑(Go.Proofs.Ytbkginommedheaa.cN x2) : Int)).toNat).snd.fst (Go.Proofs.Ytbkginommedheaa.ptOf x2 (i % (↑(Go.Proofs.Ytbkginommedheaa.cN x2) : Int)).toNat).snd.snd) (256 : Nat)).fst (Go.Proofs.Ytbkginommedheaa.cmulR x1 (0 : Nat) x7 (Go.Proofs.Ytbkginommedheaa.red (Go.Proofs.Ytbkginommedheaa.ptOf x2 (i % (↑(Go.Proofs.Ytbkginommedheaa.cN x2) : Int)).toNat).fst (Go.Proofs.Ytbkginommedheaa.ptOf x2 (i % (↑(Go.Proofs.Ytbkginommedheaa.cN x2) : Int)).toNat).snd.fst (Go.Proofs.Ytbkginommedheaa.ptOf x2 (i % (↑(Go.Proofs.Ytbkginommedheaa.cN x2) : Int)).toNat).snd.snd) (256 : Nat)).snd.fst (Go.Proofs.Ytbkginommedheaa.cmulR x1 (0 : Nat) x7 (Go.Proofs.Ytbkginommedheaa.red (Go.Proofs.Ytbkginommedheaa.ptOf x2 (i % (↑(Go.Proofs.Ytbkginommedheaa.cN x2) : Int)).toNat).fst (Go.Proofs.Ytbkginommedheaa.ptOf x2 (i % (↑(Go.Proofs.Ytbkginommedheaa.cN x2) : Int)).toNat).snd.fst (Go.Proofs.Ytbkginommedheaa.ptOf x2 (i % (↑(Go.Proofs.Ytbkginommedheaa.cN x2) : Int)).toNat).snd.snd) (256 : Nat)).snd.snd) (256 : Nat)).snd.fst % Go.Sx.M256, (Go.Proofs.Ytbkginommedheaa.cmulR x1 (0 : Nat) x12 (Go.Proofs.Ytbkginommedheaa.red (Go.Proofs.Ytbkginommedheaa.ptOf x2 (i % (↑(Go.Proofs.Ytbkginommedheaa.cN x2) : Int)).toNat).fst (Go.Proofs.Ytbkginommedheaa.ptOf x2 (i % (↑(Go.Proofs.Ytbkginommedheaa.cN x2) : Int)).toNat).snd.fst (Go.Proofs.Ytbkginommedheaa.ptOf x2 (i % (↑(Go.Proofs.Ytbkginommedheaa.cN x2) : Int)).toNat).snd.snd) (256 : Nat)).snd.snd == (Go.Proofs.Ytbkginommedheaa.cmulR x1 (0 : Nat) x10 (Go.Proofs.Ytbkginommedheaa.red (Go.Proofs.Ytbkginommedheaa.cmulR x1 (0 : Nat) x7 (Go.Proofs.Ytbkginommedheaa.red (Go.Proofs.Ytbkginommedheaa.ptOf x2 (i % (↑(Go.Proofs.Ytbkginommedheaa.cN x2) : Int)).toNat).fst (Go.Proofs.Ytbkginommedheaa.ptOf x2 (i % (↑(Go.Proofs.Ytbkginommedheaa.cN x2) : Int)).toNat).snd.fst (Go.Proofs.Ytbkginommedheaa.ptOf x2 (i % (↑(Go.Proofs.Ytbkginommedheaa.cN x2) : Int)).toNat).snd.snd) (256 : Nat)).fst (Go.Proofs.Ytbkginommedheaa.cmulR x1 (0 : Nat) x7 (Go.Proofs.Ytbkginommedheaa.red (Go.Proofs.Ytbkginommedheaa.ptOf x2 (i % (↑(Go.Proofs.Ytbkginommedheaa.cN x2) : Int)).toNat).fst (Go.Proofs.Ytbkginommedheaa.ptOf x2 (i % (↑(Go.Proofs.Ytbkginommedheaa.cN x2) : Int)).toNat).snd.fst (Go.Proofs.Ytbkginommedheaa.ptOf x2 (i % (↑(Go.Proofs.Ytbkginommedheaa.cN x2) : Int)).toNat).snd.snd) (256 : Nat)).snd.fst (Go.Proofs.Ytbkginommedheaa.cmulR x1 (0 : Nat) x7 (Go.Proofs.Ytbkginommedheaa.red (Go.Proofs.Ytbkginommedheaa.ptOf x2 (i % (↑(Go.Proofs.Ytbkginommedheaa.cN x2) : Int)).toNat).fst (Go.Proofs.Ytbkginommedheaa.ptOf x2 (i % (↑(Go.Proofs.Ytbkginommedheaa.cN x2) : Int)).toNat).snd.fst (Go.Proofs.Ytbkginommedheaa.ptOf x2 (i % (↑(Go.Proofs.Ytbkginommedheaa.cN x2) : Int)).toNat).snd.snd) (256 : Nat)).snd.snd) (256 : Nat)).snd.snd]) = Bool.true) := by kernel_rfl
-- END VC
-- VC vc_CurveOrder HASH 1b6ac73c2e9a3bf2
theorem vc_CurveOrder (n i k : Int) :
    Owes Try.prog cxCO [] 100 Try.f9 [sI .i64 n, sI .i64 i, sI .i64 k] yes =
    (let x1 : Int := Go.IntKind.i64.wrap (Go.IntKind.i64.wrap (Go.Sx.limb (Go.Proofs.Ytbkginommedheaa.cN (Go.Proofs.Ytbkginommedheaa.ixN n)) (0 : Nat)) - (1 : Int)); let x2 : Nat := Go.Proofs.Ytbkginommedheaa.cP (Go.Proofs.Ytbkginommedheaa.ixN n) % Go.Sx.M256; let x3 : Nat := Go.Proofs.Ytbkginommedheaa.ixP x2; let x4 : Int := Go.IntKind.i64.wrap ((1 : Int) + i % x1); let x5 : Nat := Go.Proofs.Ytbkginommedheaa.cB (Go.Proofs.Ytbkginommedheaa.ixN n) % Go.Sx.M256; let x6 : Nat := Go.Proofs.Ytbkginommedheaa.cN (Go.Proofs.Ytbkginommedheaa.ixN n) % Go.Sx.M256; let x7 : Int := (↑(Go.Proofs.Ytbkginommedheaa.cN x3) : Int); let x8 : Nat := ((1 : Nat) + (k % (x7 - (1 : Int))).toNat) % Go.Sx.M256; let x9 : Bool := (0 : Int) == (0 : Int); let x10 : Bool := Bool.true && x9; let x11 : Bool := x10 && x9; let x12 : Bool := x11 && Go.Sx.conj [(Go.Proofs.Ytbkginommedheaa.cmulR x2 (0 : Nat) x6 (Go.Proofs.Ytbkginommedheaa.red (Go.Proofs.Ytbkginommedheaa.ptOf x3 (x4 % x7).toNat).fst (Go.Proofs.Ytbkginommedheaa.ptOf x3 (x4 % x7).toNat).snd.fst (Go.Proofs.Ytbkginommedheaa.ptOf x3 (x4 % x7).toNat).snd.snd) (256 : Nat)).fst % Go.Sx.M256 == (0 : Nat), (Go.Proofs.Ytbkginommedheaa.cmulR x2 (0 : Nat) x6 (Go.Proofs.Ytbkginommedheaa.red (Go.Proofs.Ytbkginommedheaa.ptOf x3 (x4 % x7).toNat).fst (Go.Proofs.Ytbkginommedheaa.ptOf x3 (x4 % x7).toNat).snd.fst (Go.Proofs.Ytbkginommedheaa.ptOf x3 (x4 % x7).toNat).snd.snd) (256 : Nat)).snd.fst % Go.Sx.M256 == (0 : Nat), (Go.Proofs.Ytbkginommedheaa.cmulR x2 (0 : Nat) x6 (Go.Proofs.Ytbkginommedheaa.red (Go.Proofs.Ytbkginommedheaa.ptOf x3 (x4 % x7).toNat).fst (Go.Proofs.Ytbkginommedheaa.ptOf x3 (x4 % x7).toNat).snd.fst (Go.Proofs.Ytbkginommedheaa.ptOf x3 (x4 % x7).toNat).snd.snd) (256 : Nat)).snd.snd == Bool.true]; ((-9223372036854775808 : Int) ≤ n ∧ n ≤ (9223372036854775807 : Int)) ∧ ((-9223372036854775808 : Int) ≤ i ∧ i ≤ (9223372036854775807 : Int)) ∧ ((0 : Int) < x1 ∧ x1 ≤ (1048576 : Int)) ∧ Go.Proofs.Ytbkginommedheaa.isCv x3 (Go.Proofs.Ytbkginommedheaa.cP (Go.Proofs.Ytbkginommedheaa.ixN n)) (0 : Nat) (Go.Proofs.Ytbkginommedheaa.cB (Go.Proofs.Ytbkginommedheaa.ixN n)) (Go.Proofs.Ytbkginommedheaa.cN (Go.Proofs.Ytbkginommedheaa.ixN n)) (Go.Proofs.Ytbkginommedheaa.cX (Go.Proofs.Ytbkginommedheaa.ixN n)) (Go.Proofs.Ytbkginommedheaa.cY (Go.Proofs.Ytbkginommedheaa.ixN n)) Bool.false ∧ ((-9223372036854775808 : Int) ≤ x4 ∧ x4 ≤ (9223372036854775807 : Int)) ∧ Go.Proofs.Ytbkginommedheaa.goodP x2 (0 : Nat) x5 x6 (Go.Proofs.Ytbkginommedheaa.red (Go.Proofs.Ytbkginommedheaa.cX (Go.Proofs.Ytbkginommedheaa.ixN n)) (Go.Proofs.Ytbkginommedheaa.cY (Go.Proofs.Ytbkginommedheaa.ixN n)) Bool.false) ∧ Go.Proofs.Ytbkginommedheaa.onP x2 (0 : Nat) x5 (Go.Proofs.Ytbkginommedheaa.red (Go.Proofs.Ytbkginommedheaa.ptOf x3 (x4 % x7).toNat).fst (Go.Proofs.Ytbkginommedheaa.ptOf x3 (x4 % x7).toNat).snd.fst (Go.Proofs.Ytbkginommedheaa.ptOf x3 (x4 % x7).toNat).snd.snd) ∧ Go.Proofs.Ytbkginommedheaa.mulOK x2 (0 : Nat) x6 (Go.Proofs.Ytbkginommedheaa.red (Go.Proofs.Ytbkginommedheaa.ptOf x3 (x4 % x7).toNat).fst (Go.Proofs.Ytbkginommedheaa.ptOf x3 (x4 % x7).toNat).snd.fst (Go.Proofs.Ytbkginommedheaa.ptOf x3 (x4 % x7).toNat).snd.snd) ∧ Go.Proofs.Ytbkginommedheaa.isCv x3 (Go.Proofs.Ytbkginommedheaa.cP (Go.Proofs.Ytbkginommedheaa.ixN n)) (0 : Nat) (Go.Proofs.Ytbkginommedheaa.cB (Go.Proofs.Ytbkginommedheaa.ixN n)) (Go.Proofs.Ytbkginommedheaa.cN (Go.Proofs.Ytbkginommedheaa.ixN n)) (Go.Proofs.Ytbkginommedheaa.cX (Go.Proofs.Ytbkginommedheaa.ixN n)) (Go.Proofs.Ytbkginommedheaa.cY (Go.Proofs.Ytbkginommedheaa.ixN n)) Bool.false ∧ ((-9223372036854775808 : Int) ≤ k ∧ k ≤ (9223372036854775807 : Int)) ∧ Go.Proofs.Ytbkginommedheaa.goodP x2 (0 : Nat) x5 x6 (Go.Proofs.Ytbkginommedheaa.red (Go.Proofs.Ytbkginommedheaa.cX (Go.Proofs.Ytbkginommedheaa.ixN n)) (Go.Proofs.Ytbkginommedheaa.cY (Go.Proofs.Ytbkginommedheaa.ixN n)) Bool.false) ∧ Go.Proofs.Ytbkginommedheaa.onP x2 (0 : Nat) x5 (Go.Proofs.Ytbkginommedheaa.red (Go.Proofs.Ytbkginommedheaa.ptOf x3 (x4 % x7).toNat).fst (Go.Proofs.Ytbkginommedheaa.ptOf x3 (x4 % x7).toNat).snd.fst (Go.Proofs.Ytbkginommedheaa.ptOf x3 (x4 % x7).toNat).snd.snd) ∧ Go.Proofs.Ytbkginommedheaa.mulOK x2 (0 : Nat) x8 (Go.Proofs.Ytbkginommedheaa.red (Go.Proofs.Ytbkginommedheaa.ptOf x3 (x4 % x7).toNat).fst (Go.Proofs.Ytbkginommedheaa.ptOf x3 (x4 % x7).toNat).snd.fst (Go.Proofs.Ytbkginommedheaa.ptOf x3 (x4 % x7).toNat).snd.snd) ∧ (Bool.true = Bool.true → Bool.true = Bool.true) ∧ (Bool.true = Bool.true → Bool.true = Bool.true) ∧ (x10 = Bool.true → x10 = Bool.true) ∧ (x10 = Bool.true → x10 = Bool.true) ∧ (x11 = Bool.true → x11 = Bool.true) ∧ (x11 = Bool.true → x11 = Bool.true) ∧ (x11 = Bool.true → x11 = Bool.true) ∧ (x12 = Bool.true → x12 = Bool.true) ∧ (x12 = Bool.true → x12 = Bool.true) ∧ (x12 = Bool.true → x12 = Bool.true) ∧ (x12 && !(Go.Proofs.Ytbkginommedheaa.cmulR x2 (0 : Nat) x8 (Go.Proofs.Ytbkginommedheaa.red (Go.Proofs.Ytbkginommedheaa.ptOf x3 (x4 % x7).toNat).fst (Go.Proofs.Ytbkginommedheaa.ptOf x3 (x4 % x7).toNat).snd.fst (Go.Proofs.Ytbkginommedheaa.ptOf x3 (x4 % x7).toNat).snd.snd) (256 : Nat)).snd.snd) = Bool.true) := by kernel_rfl
-- END VC
-- VC vc_LiftBack HASH 109cc9eb0f0405bb
theorem vc_LiftBack (n i : Int) :
    Owes Try.prog cxLB [] 100 Try.f10 [sI .i64 n, sI .i64 i] yes =
    (let x1 : Int := Go.IntKind.i64.wrap (Go.IntKind.i64.wrap (Go.Sx.limb (Go.Proofs.Ytbkginommedheaa.cN (Go.Proofs.Ytbkginommedheaa.ixN n)) (0 : Nat)) - (1 : Int)); let x2 : Nat := Go.Proofs.Ytbkginommedheaa.cP (Go.Proofs.Ytbkginommedheaa.ixN n) % Go.Sx.M256; let x3 : Nat := Go.Proofs.Ytbkginommedheaa.ixP x2; let x4 : Int := Go.IntKind.i64.wrap ((1 : Int) + i % x1); let x5 : Nat := Go.Proofs.Ytbkginommedheaa.cB (Go.Proofs.Ytbkginommedheaa.ixN n) % Go.Sx.M256; let x6 : Nat := (Go.Proofs.Ytbkginommedheaa.ptOf x3 (x4 % (↑(Go.Proofs.Ytbkginommedheaa.cN x3) : Int)).toNat).fst % Go.Sx.M256; let x7 : Nat := (Go.Proofs.Ytbkginommedheaa.ptOf x3 (x4 % (↑(Go.Proofs.Ytbkginommedheaa.cN x3) : Int)).toNat).snd.fst; let x8 : Bool := (Go.Sx.limb x7 (0 : Nat)).tmod (2 : Int) == (1 : Int); let x9 : Bool := Bool.true && (if x2 ≤ x6 then (6 : Int) else (0 : Int)) == (0 : Int); let x10 : Bool := x9 && (if x2 ≤ x2 then (6 : Int) else (0 : Int)) == (6 : Int); ((-9223372036854775808 : Int) ≤ n ∧ n ≤ (9223372036854775807 : Int)) ∧ ((-9223372036854775808 : Int) ≤ i ∧ i ≤ (9223372036854775807 : Int)) ∧ ((0 : Int) < x1 ∧ x1 ≤ (1048576 : Int)) ∧ Go.Proofs.Ytbkginommedheaa.isCv x3 (Go.Proofs.Ytbkginommedheaa.cP (Go.Proofs.Ytbkginommedheaa.ixN n)) (0 : Nat) (Go.Proofs.Ytbkginommedheaa.cB (Go.Proofs.Ytbkginommedheaa.ixN n)) (Go.Proofs.Ytbkginommedheaa.cN (Go.Proofs.Ytbkginommedheaa.ixN n)) (Go.Proofs.Ytbkginommedheaa.cX (Go.Proofs.Ytbkginommedheaa.ixN n)) (Go.Proofs.Ytbkginommedheaa.cY (Go.Proofs.Ytbkginommedheaa.ixN n)) Bool.false ∧ ((-9223372036854775808 : Int) ≤ x4 ∧ x4 ≤ (9223372036854775807 : Int)) ∧ Go.Proofs.Ytbkginommedheaa.goodP x2 (0 : Nat) x5 (Go.Proofs.Ytbkginommedheaa.cN (Go.Proofs.Ytbkginommedheaa.ixN n) % Go.Sx.M256) (Go.Proofs.Ytbkginommedheaa.red (Go.Proofs.Ytbkginommedheaa.cX (Go.Proofs.Ytbkginommedheaa.ixN n)) (Go.Proofs.Ytbkginommedheaa.cY (Go.Proofs.Ytbkginommedheaa.ixN n)) Bool.false) ∧ (x6 < x2 → Go.Proofs.Ytbkginommedheaa.liftOK x2 (0 : Nat) x5 x6 x8) ∧ Go.Proofs.Ytbkginommedheaa.goodP x2 (0 : Nat) x5 (Go.Proofs.Ytbkginommedheaa.cN (Go.Proofs.Ytbkginommedheaa.ixN n) % Go.Sx.M256) (Go.Proofs.Ytbkginommedheaa.red (Go.Proofs.Ytbkginommedheaa.cX (Go.Proofs.Ytbkginommedheaa.ixN n)) (Go.Proofs.Ytbkginommedheaa.cY (Go.Proofs.Ytbkginommedheaa.ixN n)) Bool.false) ∧ (x2 < x2 → Go.Proofs.Ytbkginommedheaa.liftOK x2 (0 : Nat) x5 x2 Bool.false) ∧ (Bool.true = Bool.true → Bool.true = Bool.true) ∧ (Bool.true = Bool.true → Bool.true = Bool.true) ∧ (x9 = Bool.true → x9 = Bool.true) ∧ (x9 = Bool.true → x9 = Bool.true) ∧ (x10 = Bool.true → x10 = Bool.true) ∧ (x10 = Bool.true → x10 = Bool.true) ∧ (x10 = Bool.true → x10 = Bool.true) ∧ (x10 && Go.Sx.conj [x6 == (if x2 ≤ x6 then (0 : Nat) else x6) % Go.Sx.M256, x7 % Go.Sx.M256 == (if x2 ≤ x6 then (0 : Nat) else Go.Proofs.Ytbkginommedheaa.liftY x2 (0 : Nat) x5 x6 x8) % Go.Sx.M256, (Go.Proofs.Ytbkginommedheaa.ptOf x3 (x4 % (↑(Go.Proofs.Ytbkginommedheaa.cN x3) : Int)).toNat).snd.snd == Bool.false]) = Bool.true) := by kernel_rfl
-- END VC

end Go.Proofs.Ytbkginommedheaa
end

section
/-
  The small curves: the sum of two points has the place that is the sum of theirs.
-/
namespace Go.Proofs.Ytbkginommedheaa
open Go.Sx

theorem pair_dvd {p x1 y1 : Nat} {q r : Nat × Nat} (h : pairOK p x1 y1 q r = true) (hr : r.2 ≠ 0) (h1 : x1 ≤ p) (h2 : y1 ≤ p) (h3 : r.1 ≤ p) :
    x1 ≠ q.1 ∧ (p : Int) ∣ ((r.1 : Int) + x1 + q.1) * (((q.1 : Int) - x1) * ((q.1 : Int) - x1)) - ((q.2 : Int) - y1) * ((q.2 : Int) - y1) ∧ (p : Int) ∣ ((r.2 : Int) + y1) * ((q.1 : Int) - x1) - ((q.2 : Int) - y1) * ((x1 : Int) - r.1) := by
  obtain ⟨x2, y2⟩ := q
  obtain ⟨x3, y3⟩ := r
  unfold pairOK at h
  have h3' : x3 ≤ p := h3
  have e : Nat.beq y3 0 = false := by
    rcases Bool.eq_false_or_eq_true (Nat.beq y3 0) with e | e
    · exact absurd (Nat.eq_of_beq_eq_true e) hr
    · exact e
  simp only [e, Bool.false_or, Bool.and_eq_true, Bool.not_eq_true'] at h
  obtain ⟨g1, g2, g3⟩ := h
  have cd := Cg.sub (Cg.self p x2) (Cg.self p x1) h1
  have ce := Cg.sub (Cg.self p y2) (Cg.self p y1) h2
  have cz := Cg.sub (Cg.self p x1) (Cg.self p x3) h3'
  refine ⟨fun h => ?_, ?_, ?_⟩
  · have h : x1 = x2 := h
    rw [h, Nat.beq_refl] at g1
    cases g1
  · exact Cg.of_eq (Nat.eq_of_beq_eq_true g2) (((Cg.self p x3).add (Cg.self p x1)).add (Cg.self p x2) |>.mul (cd.mul cd)) (ce.mul ce)
  · exact Cg.of_eq (Nat.eq_of_beq_eq_true g3) (((Cg.self p y3).add (Cg.self p y1)).mul cd) (ce.mul cz)
/-- A line through two points. -/
theorem through_is {p s x1 y1 x2 y2 x3 y3 : Nat} {f g : Bool} {D E u : Int} (hs : Cg p s (E * u)) (hx1 : x1 < p) (hy1 : y1 < p) (hx2 : x2 < p) (hx3 : x3 < p) (hy3 : y3 < p)
    (hu : (p : Int) ∣ D * u - 1) (h1 : (p : Int) ∣ ((x3 : Int) + x1 + x2) * (D * D) - E * E) (h2 : (p : Int) ∣ ((y3 : Int) + y1) * D - E * ((x1 : Int) - x3)) :
    throughN p s (x1, y1, f) (x2, y2, g) = (x3, y3, false) := by
  have h0 := lt_pos hx1
  have cx : Cg p (((s * s % p + p - x1) % p + p - x2) % p) (x3 : Int) := by
    have c := ((((hs.mul hs).md.sub (Cg.self p x1) (by omega)).md.sub (Cg.self p x2) (by omega)).md)
    refine c.to ?_
    have := line_x h1 hu
    rw [show E * u * (E * u) - (x1 : Int) - (x2 : Int) - (x3 : Int) = E * u * (E * u) - ((x3 : Int) + x1 + x2) by omega]
    exact this
  have ex : ((s * s % p + p - x1) % p + p - x2) % p = x3 := cx.eq (Cg.self p x3) (Nat.mod_lt _ h0) hx3
  unfold throughN
  dsimp only
  rw [ex]
  have cy : Cg p ((s * ((x1 + p - x3) % p) % p + p - y1) % p) (y3 : Int) := by
    have c := ((hs.mul ((Cg.self p x1).sub (Cg.self p x3) (by omega)).md).md.sub (Cg.self p y1) (by omega)).md
    refine c.to ?_
    have := line_y h2 hu
    rw [show E * u * ((x1 : Int) - x3) - (y1 : Int) - (y3 : Int) = E * u * ((x1 : Int) - x3) - ((y3 : Int) + y1) by omega]
    exact this
  have ey : (s * ((x1 + p - x3) % p) % p + p - y1) % p = y3 := cy.eq (Cg.self p y3) (Nat.mod_lt _ h0) hy3
  rw [ey]
theorem diff_ne {p x1 x2 : Nat} (h1 : x1 < p) (h2 : x2 < p) (h : x1 ≠ x2) : 1 ≤ (x2 + p - x1) % p ∧ (x2 + p - x1) % p < p := by
  have hlt := Nat.mod_lt (x2 + p - x1) (lt_pos h1)
  refine ⟨?_, hlt⟩
  rcases Nat.eq_zero_or_pos ((x2 + p - x1) % p) with e | e
  · obtain ⟨k, hk⟩ := Nat.dvd_of_mod_eq_zero e
    have : k = 1 := by
      rcases Nat.lt_or_ge k 1 with g | g
      · have : k = 0 := by omega
        subst this; omega
      · rcases Nat.lt_or_ge 1 k with g' | g'
        · have := Nat.mul_le_mul_left p g'
          omega
        · omega
    subst this
    omega
  · exact e
theorem csum_pt {i a b : Nat} (hi : i < 8) (ha : a < cN i) (hb : b < cN i) : sumOK (cP i) 0 (ptOf i a) (ptOf i b) ∧ csum (cP i) 0 (ptOf i a) (ptOf i b) = ptOf i ((a + b) % cN i) := by
  obtain ⟨r1, r2⟩ := cP_range hi
  have inp : ∀ j, j < cN i → inP (cP i) (ptOf i j) := by
    intro j hj
    refine ⟨fun h => ?_⟩
    rcases Nat.eq_zero_or_pos j with e | e
    · subst e; cases h
    · rw [pt_pos i e]
      have F := one_of hi e hj
      exact ⟨F.lx, F.ly⟩
  have odd : cN i % 2 = 1 := by
    have : ∀ i : Fin 8, cN i.val % 2 = 1 := by decide
    exact this ⟨i, hi⟩
  have ia := inp a ha
  have ib := inp b hb
  rcases Nat.eq_zero_or_pos a with e | ea
  · subst e
    refine ⟨⟨by omega, ia, ib, fun h => by cases h⟩, ?_⟩
    rw [Nat.zero_add, Nat.mod_eq_of_lt hb]
    rfl
  rcases Nat.eq_zero_or_pos b with e | eb
  · subst e
    refine ⟨⟨by omega, ia, ib, fun _ h => by cases h⟩, ?_⟩
    rw [Nat.add_zero, Nat.mod_eq_of_lt ha, pt_pos i ea]
    rfl
  have Fa := one_of hi ea ha
  have Fb := one_of hi eb hb
  by_cases hab : a + b = cN i
  · have eb' : cN i - a = b := by omega
    have nx := Fa.nx
    have ny := Fa.ny
    rw [eb'] at nx ny
    have hlt := Fa.ly
    have hc : (ptOf i a).1 = (ptOf i b).1 ∧ ((ptOf i a).2.1 + (ptOf i b).2.1) % cP i = 0 := by
      rw [pt_pos i ea, pt_pos i eb]
      refine ⟨nx.symm, ?_⟩
      show (((tabOf i).getD a (0, 0)).2 + ((tabOf i).getD b (0, 0)).2) % cP i = 0
      rw [ny, Nat.add_sub_cancel' (Nat.le_of_lt hlt), Nat.mod_self]
    refine ⟨⟨by omega, ia, ib, fun _ _ h => absurd hc h⟩, ?_⟩
    rw [hab, Nat.mod_self, pt_zero]
    unfold csum
    rw [if_neg (by rw [pt_pos i ea]; exact Bool.false_ne_true), if_neg (by rw [pt_pos i eb]; exact Bool.false_ne_true), if_pos hc]
  -- the sum is not far
  have hc0 : 1 ≤ (a + b) % cN i := by
    rcases Nat.lt_or_ge (a + b) (cN i) with g | g
    · rw [Nat.mod_eq_of_lt g]; omega
    · rw [← Nat.sub_add_cancel g, Nat.add_mod_right, Nat.mod_eq_of_lt (by omega)]
      omega
  have hcN : (a + b) % cN i < cN i := Nat.mod_lt _ (by omega)
  have Fc := one_of hi hc0 hcN
  have rel : a ≠ b → ((tabOf i).getD a (0, 0)).1 ≠ ((tabOf i).getD b (0, 0)).1 ∧ ((cP i : Nat) : Int) ∣ ((((tabOf i).getD ((a + b) % cN i) (0, 0)).1 : Int) + (((tabOf i).getD a (0, 0)).1 : Int) + (((tabOf i).getD b (0, 0)).1 : Int)) * (((((tabOf i).getD b (0, 0)).1 : Int) - (((tabOf i).getD a (0, 0)).1 : Int)) * ((((tabOf i).getD b (0, 0)).1 : Int) - (((tabOf i).getD a (0, 0)).1 : Int))) - ((((tabOf i).getD b (0, 0)).2 : Int) - (((tabOf i).getD a (0, 0)).2 : Int)) * ((((tabOf i).getD b (0, 0)).2 : Int) - (((tabOf i).getD a (0, 0)).2 : Int)) ∧
      ((cP i : Nat) : Int) ∣ ((((tabOf i).getD ((a + b) % cN i) (0, 0)).2 : Int) + (((tabOf i).getD a (0, 0)).2 : Int)) * ((((tabOf i).getD b (0, 0)).1 : Int) - (((tabOf i).getD a (0, 0)).1 : Int)) - ((((tabOf i).getD b (0, 0)).2 : Int) - (((tabOf i).getD a (0, 0)).2 : Int)) * ((((tabOf i).getD a (0, 0)).1 : Int) - (((tabOf i).getD ((a + b) % cN i) (0, 0)).1 : Int)) := by
    intro hne
    rcases Nat.lt_or_ge a b with g | g
    · exact pair_dvd (pair_of hi ea g hb) (by have := Fc.y0; omega) (Nat.le_of_lt Fa.lx) (Nat.le_of_lt Fa.ly) (Nat.le_of_lt Fc.lx)
    · have h := pair_of hi eb (show b < a by omega) ha
      rw [Nat.add_comm b a] at h
      obtain ⟨k1, k2, k3⟩ := pair_dvd h (by have := Fc.y0; omega) (Nat.le_of_lt Fb.lx) (Nat.le_of_lt Fb.ly) (Nat.le_of_lt Fc.lx)
      refine ⟨fun h => k1 h.symm, ?_, ?_⟩
      · obtain ⟨z, hz⟩ := k2
        exact ⟨z, by rw [← hz]; grind⟩
      · obtain ⟨z, hz⟩ := k3
        exact ⟨-z, by rw [Int.mul_neg, ← hz]; grind⟩
  have g1 : ∀ A, 1 ≤ A → A < cP i → Nat.gcd A (cP i) = 1 := fun A h1 h2 => (pp_fact hi h1 h2).2.2
  have pa := pt_pos i ea
  have pb := pt_pos i eb
  have pc := pt_pos i hc0
  have dxa := Fa.dx
  have dya := Fa.dy
  by_cases hne : a = b
  · subst hne
    rw [← Nat.two_mul] at pc Fc ⊢
    rw [pa, pc]
    have hd : Nat.gcd ((((tabOf i).getD a (0, 0)).2 + ((tabOf i).getD a (0, 0)).2) % cP i) (cP i) = 1 := g1 _ (by have := Fa.d0; omega) (Nat.mod_lt _ (by omega))
    have lx := Fa.lx
    have ly := Fa.ly
    have zx := Fc.lx
    have zy := Fc.ly
    have d0 := Fa.d0
    rw [pa] at ia
    generalize (tabOf i).getD (2 * a % cN i) (0, 0) = t at *
    generalize (tabOf i).getD a (0, 0) = q at *
    obtain ⟨x, y⟩ := q
    obtain ⟨z, w⟩ := t
    have hn : ¬ (x = x ∧ (y + y) % cP i = 0) := fun h => d0 h.2
    refine ⟨⟨by omega, ia, ia, fun _ _ _ => ⟨fun _ => hd, fun h => absurd rfl h⟩⟩, ?_⟩
    have e : csum (cP i) 0 (x, y, false) (x, y, false) = throughN (cP i) (slopeN (cP i) 0 (x, y, false) (x, y, false)) (x, y, false) (x, y, false) := by
      unfold csum
      rw [if_neg Bool.false_ne_true, if_neg Bool.false_ne_true, if_neg hn]
    have cy2 := (Cg.self (cP i) y).add (Cg.self (cP i) y)
    have cxx := ((Cg.self (cP i) x).mul (Cg.self (cP i) x)).md
    have c3 : Cg (cP i) (tw3 (cP i) (x * x % cP i)) ((x : Int) * x + ((x : Int) * x + (x : Int) * x)) := (cxx.add (cxx.add cxx).md).md
    have hu := inv_cg (Nat.mod_lt _ (by omega)) hd cy2.md
    have cs : Cg (cP i) (slopeN (cP i) 0 (x, y, false) (x, y, false)) (((x : Int) * x + ((x : Int) * x + (x : Int) * x)) * ((invN ((y + y) % cP i) (cP i) : Nat) : Int)) := by
      unfold slopeN
      rw [if_pos rfl]
      exact ((c3.add (Cg.self (cP i) 0)).md.mul (Cg.self _ _)).md.to ⟨0, by simp⟩
    have c33 : Cg (cP i) (3 * x * x) ((x : Int) * x + ((x : Int) * x + (x : Int) * x)) := ⟨⟨0, by rw [Int.natCast_mul, Int.natCast_mul]; grind⟩⟩
    have h1 := Cg.of_eq dxa ((((Cg.self (cP i) z).add (Cg.self (cP i) x)).add (Cg.self (cP i) x)).mul (cy2.mul cy2)) (c33.mul c33)
    have h2 := Cg.of_eq dya (((Cg.self (cP i) w).add (Cg.self (cP i) y)).mul cy2) (c33.mul ((Cg.self (cP i) x).sub (Cg.self (cP i) z) (Nat.le_of_lt zx)))
    rw [e]
    exact through_is cs lx ly lx zx zy hu h1 h2
  · obtain ⟨k1, k2, k3⟩ := rel hne
    rw [pa, pb, pc]
    obtain ⟨dn1, dn2⟩ := diff_ne Fa.lx Fb.lx k1
    have hd := g1 _ dn1 dn2
    have lx := Fa.lx
    have ly := Fa.ly
    have lx2 := Fb.lx
    have zx := Fc.lx
    have zy := Fc.ly
    rw [pa] at ia
    rw [pb] at ib
    generalize (tabOf i).getD ((a + b) % cN i) (0, 0) = t at *
    generalize (tabOf i).getD a (0, 0) = q at *
    generalize (tabOf i).getD b (0, 0) = r at *
    obtain ⟨x1, y1⟩ := q
    obtain ⟨x2, y2⟩ := r
    obtain ⟨x3, y3⟩ := t
    have hne' : ¬ ((x1, y1, false) : Pt) = (x2, y2, false) := fun h => k1 (congrArg (·.1) h)
    have hn : ¬ (x1 = x2 ∧ (y1 + y2) % cP i = 0) := fun h => k1 h.1
    refine ⟨⟨by omega, ia, ib, fun _ _ _ => ⟨fun h => absurd h hne', fun _ => hd⟩⟩, ?_⟩
    have e : csum (cP i) 0 (x1, y1, false) (x2, y2, false) = throughN (cP i) (slopeN (cP i) 0 (x1, y1, false) (x2, y2, false)) (x1, y1, false) (x2, y2, false) := by
      unfold csum
      rw [if_neg Bool.false_ne_true, if_neg Bool.false_ne_true, if_neg hn]
    have cD := ((Cg.self (cP i) x2).sub (Cg.self (cP i) x1) (Nat.le_of_lt lx)).md
    have cE := ((Cg.self (cP i) y2).sub (Cg.self (cP i) y1) (Nat.le_of_lt ly)).md
    have hu := inv_cg dn2 hd cD
    have cs : Cg (cP i) (slopeN (cP i) 0 (x1, y1, false) (x2, y2, false)) (((y2 : Int) - y1) * ((invN ((x2 + cP i - x1) % cP i) (cP i) : Nat) : Int)) := by
      unfold slopeN
      rw [if_neg hne']
      exact (cE.mul (Cg.self _ _)).md
    rw [e]
    exact through_is cs lx ly lx2 zx zy hu k2 k3
end Go.Proofs.Ytbkginommedheaa
end

section
/-
  Small curves: points so often, points by number, lifting.
-/
namespace Go.Proofs.Ytbkginommedheaa
open Go.Sx

theorem good_all {i : Nat} (hi : i < 8) : goodP (cP i) 0 (cB i) (cN i) (cX i, cY i, false) := by
  match i, hi with
  | 0, _ | 1, _ | 2, _ | 3, _ | 4, _ | 5, _ | 6, _ | 7, _ => exact ⟨by decide, by decide, by decide, by decide, by decide, by decide +kernel, rfl, ⟨fun h => (by cases h), fun _ => by decide +kernel⟩⟩
  | k + 8, h => omega
theorem base_pt {i : Nat} (hi : i < 8) : (cX i, cY i, false) = ptOf i 1 := by
  match i, hi with
  | 0, _ | 1, _ | 2, _ | 3, _ | 4, _ | 5, _ | 6, _ | 7, _ => rfl
  | k + 8, h => omega
theorem cN_range {i : Nat} (h : i < 8) : 31 ≤ cN i ∧ cN i ≤ 643 := by
  have : ∀ i : Fin 8, 31 ≤ cN i.val ∧ cN i.val ≤ 643 := by decide
  exact this ⟨i, h⟩
theorem ixP_of {i : Nat} (hi : i < 8) : ixP (cP i) = i := by
  have : ∀ i : Fin 8, ixP (cP i.val) = i.val := by decide
  exact this ⟨i, hi⟩
theorem onP_pt {i j : Nat} (hi : i < 8) (hj : j < cN i) : onP (cP i) 0 (cB i) (ptOf i j) := by
  rcases Nat.eq_zero_or_pos j with e | e
  · subst e
    exact ⟨fun _ => ⟨rfl, rfl⟩, fun h => by cases h⟩
  · have F := one_of hi e hj
    rw [pt_pos i e]
    exact ⟨fun h => (by cases h), fun _ => ⟨F.lx, F.ly, F.on⟩⟩
theorem inM_pt {i j : Nat} (hi : i < 8) (hj : j < cN i) : inM (ptOf i j) := by
  have hM := M256_eq
  obtain ⟨_, r2⟩ := cP_range hi
  rcases Nat.eq_zero_or_pos j with e | e
  · subst e
    exact ⟨M_pos, M_pos⟩
  · have F := one_of hi e hj
    have h1 := F.lx
    have h2 := F.ly
    rw [pt_pos i e]
    exact ⟨by dsimp only; omega, by dsimp only; omega⟩
theorem cmul_at {i j k : Nat} (hi : i < 8) (hj : j < cN i) (hk : k < M256) : ∀ n, n ≤ 256 → cmulR (cP i) 0 k (ptOf i j) n = ptOf i (k / 2 ^ (256 - n) * j % cN i)
  | 0, _ => by
    rw [show k / 2 ^ (256 - 0) = 0 from Nat.div_eq_of_lt hk, Nat.zero_mul, Nat.zero_mod]
    rfl
  | n + 1, hn => by
    obtain ⟨r1, _⟩ := cN_range hi
    have ih := cmul_at hi hj hk n (by omega)
    obtain ⟨t, ht⟩ : ∃ t, t = 255 - n := ⟨_, rfl⟩
    rw [show 256 - n = t + 1 by omega] at ih
    have hs := half_step k t
    have lt : ∀ v, v % cN i < cN i := fun v => Nat.mod_lt v (by omega)
    have h1 := (csum_pt hi (lt (k / 2 ^ (t + 1) * j)) (lt (k / 2 ^ (t + 1) * j))).2
    have h2 := (csum_pt hi (lt (k / 2 ^ (t + 1) * j % cN i + k / 2 ^ (t + 1) * j % cN i)) hj).2
    rw [cmulR, ih, h1, h2, show 256 - (n + 1) = t by omega, show 255 - n = t by omega]
    have e1 : (k / 2 ^ (t + 1) * j % cN i + k / 2 ^ (t + 1) * j % cN i) % cN i = 2 * (k / 2 ^ (t + 1)) * j % cN i := by
      rw [← Nat.add_mod, ← Nat.two_mul, Nat.mul_assoc]
    by_cases hb : k.testBit t = true
    · rw [if_pos hb, e1, Nat.mod_add_mod, hs, hb, Bool.toNat_true, Nat.add_mul, Nat.one_mul]
    · rw [if_neg hb, e1, hs, Bool.eq_false_iff.2 hb, Bool.toNat_false]
      simp only [Nat.add_zero]
theorem cmul_pt {i j k : Nat} (hi : i < 8) (hj : j < cN i) (hk : k < M256) : mulOK (cP i) 0 k (ptOf i j) ∧ cmulR (cP i) 0 k (ptOf i j) 256 = ptOf i (k * j % cN i) := by
  obtain ⟨r1, _⟩ := cN_range hi
  have lt : ∀ v, v % cN i < cN i := fun v => Nat.mod_lt v (by omega)
  refine ⟨⟨fun n hn => ?_, fun n hn _ => ?_⟩, ?_⟩
  · rw [cmul_at hi hj hk n (by omega)]
    exact (csum_pt hi (lt _) (lt _)).1
  · rw [cmul_at hi hj hk n (by omega), (csum_pt hi (lt _) (lt _)).2]
    exact (csum_pt hi (lt _) hj).1
  · rw [cmul_at hi hj hk 256 (Nat.le_refl _), Nat.sub_self, Nat.pow_zero, Nat.div_one]
theorem isCv.good {i P A B N X Y : Nat} {F : Bool} (h : isCv i P A B N X Y F) : P % M256 = cP i ∧ A % M256 = 0 ∧ B % M256 = cB i ∧ N % M256 = cN i ∧ red X Y F = ptOf i 1 ∧ goodP (P % M256) (A % M256) (B % M256) (N % M256) (red X Y F) := by
  have e : red X Y F = (cX i, cY i, false) := by
    unfold red
    rw [h.x, h.y, h.f]
  refine ⟨h.p, h.a, h.b, h.n, by rw [e, base_pt h.lt], ?_⟩
  rw [h.p, h.a, h.b, h.n, e]
  exact good_all h.lt
theorem limb_low (N : Nat) : limb N 0 = ((N % M256 % 18446744073709551616 : Nat) : Int) := by
  have e : limb N 0 = ((N / 2 ^ (64 * 0) % 2 ^ 64 : Nat) : Int) := rfl
  rw [e, limb_mod N 0 (by decide), Nat.mul_zero, Nat.pow_zero, Nat.div_one]
theorem ok_point : ∀ (ls : List (List At)) (vs : List (Option Addr)), Ok (pointC ls) → Owes Try.prog cxPoint [] 100 Try.f19 (mkArgs [.str pCv, .int .i64] ls vs) (pointG ls) := by
  intro ls vs hc
  unfold pointC at hc
  split at hc
  · rename_i P A B N X Y F n
    have h : Owes Try.prog cxPoint [] 100 Try.f19 [sCv P A B N X Y F, sI .i64 n] (pointG [[.u P, .u A, .u B, .u N, .u X, .u Y, .b F], [.i n]]) := by
      rw [vc_point]
      obtain ⟨hcv, hn, _⟩ := hc
      obtain ⟨eP, eA, eB, eN, eb, hg⟩ := hcv.good
      have hi := hcv.lt
      obtain ⟨r1, r2⟩ := cN_range hi
      have hL := limb_low N
      have hM := M256_eq
      rw [eN] at hL hg
      obtain ⟨i, hix⟩ : ∃ i, ixP (P % M256) = i := ⟨_, rfl⟩
      rw [hix] at eP eB eN eb hg hi r1 r2 hL
      have m1 := Int.emod_nonneg n (show ((cN i : Nat) : Int) ≠ 0 by omega)
      have m2 := Int.emod_lt_of_pos n (show (0 : Int) < ((cN i : Nat) : Int) by omega)
      obtain ⟨a, ha⟩ := Int.eq_ofNat_of_zero_le m1
      have haN : a < cN i := by omega
      rw [eP, eA, eB, eb] at hg
      intro x1 x2 x3 x4 x5 x6 x7
      have E1 : x1 = ((cN i : Nat) : Int) := by
        simp only [x1]
        rw [hL, Nat.mod_eq_of_lt (by omega), IntWalk.i64_in _ (by omega)]
      have E2 : x2 = (a : Int) := by
        simp only [x2]
        rw [E1, ha, wrap_id (by omega)]
      have E6 : x6 = a := by
        simp only [x6]
        rw [join_one (by omega), E2, Int.toNat_natCast]
      have E3 : x3 = cP i := eP
      have E4 : x4 = 0 := eA
      have E5 : x5 = cB i := eB
      have E7 : x7 = i := hix
      clear_value x7 x6 x5 x4 x3 x2 x1
      obtain ⟨k1, k2⟩ := cmul_pt hi (show 1 < cN i by omega) (show a < M256 by omega)
      rw [Nat.mul_one, Nat.mod_eq_of_lt haN] at k2
      rw [E1, E2, E3, E4, E5, E6, E7, eb, k2, ha, Int.toNat_natCast, eN]
      exact ⟨hn, by omega, by omega, by decide, by decide, by decide, hg, onP_pt hi (by omega), k1, rfl, rfl, rfl, trivial⟩
    exact h
  · exact hc.1.elim
theorem ok_Secret : ∀ (ls : List (List At)) (vs : List (Option Addr)), Ok (pointC ls) → Owes Try.prog cxSecret [] 100 Try.f27 (mkArgs [.str pCv, .int .i64] ls vs) (secretG ls) := by
  intro ls vs hc
  unfold pointC at hc
  split at hc
  · rename_i P A B N X Y F n
    have h : Owes Try.prog cxSecret [] 100 Try.f27 [sCv P A B N X Y F, sI .i64 n] (secretG [[.u P, .u A, .u B, .u N, .u X, .u Y, .b F], [.i n]]) := by
      rw [vc_Secret]
      obtain ⟨hcv, hn, _⟩ := hc
      obtain ⟨eP, eA, eB, eN, eb, hg⟩ := hcv.good
      have hi := hcv.lt
      obtain ⟨r1, r2⟩ := cN_range hi
      have hL := limb_low N
      rw [eN] at hL
      generalize ixP (P % M256) = i at *
      have m1 := Int.emod_nonneg n (show ((cN i : Nat) : Int) - 1 ≠ 0 by omega)
      have m2 := Int.emod_lt_of_pos n (show (0 : Int) < ((cN i : Nat) : Int) - 1 by omega)
      obtain ⟨a, ha⟩ := Int.eq_ofNat_of_zero_le m1
      intro x1 x2
      have E1 : x1 = ((cN i : Nat) : Int) - 1 := by
        simp only [x1]
        rw [hL, Nat.mod_eq_of_lt (by omega), IntWalk.i64_in ((cN i : Nat) : Int) (by omega), IntWalk.i64_in _ (by omega)]
      have E2 : x2 = ((1 + a : Nat) : Int) := by
        simp only [x2]
        rw [E1, ha, wrap_id (n := (a : Int)) (by omega), wrap_id (by omega)]
        omega
      clear_value x2 x1
      rw [E1, ha, E2, Int.toNat_natCast]
      refine ⟨hn, by omega, by omega, by decide, by decide, by decide, ?_, trivial⟩
      rw [join_one (by omega), Int.toNat_natCast, small_mod (by omega)]
    exact h
  · exact hc.1.elim
theorem ok_Lift : ∀ (ls : List (List At)) (vs : List (Option Addr)), Ok (liftC ls) → Owes Try.prog cxLift [] 100 Try.f28 (mkArgs [.str pCv, .str [.u], .bit] ls vs) (liftG ls) := by
  intro ls vs hc
  unfold liftC at hc
  split at hc
  · rename_i P A B N X Y F x odd
    have h : Owes Try.prog cxLift [] 100 Try.f28 [sCv P A B N X Y F, sU x, sB odd] (liftG [[.u P, .u A, .u B, .u N, .u X, .u Y, .b F], [.u x], [.b odd]]) := by
      rw [vc_Lift]
      obtain ⟨hg, hl, _⟩ := hc
      have h0 := lt_pos hg.A0
      have mM := md_M h0
      have lt := fun v => Nat.mod_lt v h0
      intro x1 x2 x3 x4 x5 x6 x7 x8 x9 x10 x11 x12
      have hA : x2 < x1 := hg.A0
      have h0 : 0 < x1 := h0
      have hB : x3 < x1 := hg.B0
      have E8 : x8 = rhsN x1 x2 x3 x4 := mM _
      have l8 : x8 < x1 := by rw [E8]; exact lt _
      have E10 : x10 = x9 := mM _
      have l9 : x9 < x1 := lt _
      have E12 : x12 = x11 := mM _
      have l11 : x11 < x1 := lt _
      have E9 : x9 = rhsN x1 x2 x3 x4 ^ (x1 / 4 + 1) % x1 := by simp only [x9]; rw [E8]
      have E11 : x11 = (0 + x1 - x9) % x1 := by simp only [x11]; rw [E10]
      refine ⟨rfl, hg, fun h => ?_, fun h => ?_⟩
      · have hge : x1 ≤ x4 := cmp_ge.1 (of_decide_eq_true h)
        have E5 : x5 = 0 := by simp only [x5]; rw [if_pos hge, Nat.zero_mod]
        have E6 : x6 = 0 := by simp only [x6]; rw [if_pos hge, Nat.zero_mod]
        have E7 : x7 = 6 := by simp only [x7]; rw [if_pos hge]
        rw [E5, E6, E7]
        exact ⟨⟨rfl, rfl, rfl, trivial⟩, rfl⟩
      · have hlt : x4 < x1 := Nat.lt_of_not_le fun c => of_decide_eq_false h (cmp_ge.2 c)
        have hn : ¬ x1 ≤ x4 := by omega
        obtain ⟨o1, o2⟩ := hl hlt
        have o1 : (liftY x1 x2 x3 x4 odd % 2 == 1) = odd := o1
        have o2 : liftY x1 x2 x3 x4 odd * liftY x1 x2 x3 x4 odd % x1 = rhsN x1 x2 x3 x4 := o2
        have E5 : x5 = x4 := by simp only [x5]; rw [if_neg hn]; exact mod_M hlt
        have E7 : x7 = 0 := by simp only [x7]; rw [if_neg hn]
        have E6 : x6 = liftY x1 x2 x3 x4 odd := by
          simp only [x6]
          rw [if_neg hn]
          refine mod_M (m := P) ?_
          show liftY x1 x2 x3 x4 odd < x1
          unfold liftY
          split <;> exact lt _
        have m4 : x % M256 = x4 := rfl
        have near : ∀ v, v < x1 → v * v % x1 = rhsN x1 x2 x3 x4 → onP x1 x2 x3 (red x v false) := by
          intro v hv he
          have e : red x v false = (x4, v, false) := by
            unfold red
            rw [m4, mod_M hv]
          rw [e]
          exact ⟨fun h => (by cases h), fun _ => ⟨hlt, hv, he⟩⟩
        have yes : ((x9 % 2 == 1) == odd) = true → liftY x1 x2 x3 x4 odd = x9 := by
          intro hb
          unfold liftY
          rw [← E9, if_neg]
          rw [beq_iff_eq] at hb
          rw [hb]
          simp
        have no : ((x9 % 2 == 1) == odd) = false → liftY x1 x2 x3 x4 odd = x11 := by
          intro hb
          unfold liftY
          rw [← E9, if_pos, E11]
          rw [bne, hb]
          rfl
        clear_value x12 x11 x10 x9 x8 x7 x6 x5 x4 x3 x2 x1
        rw [E10, E12, E5, E6, E7]
        refine ⟨hA, hB, hlt, l8, fun hb => ⟨h0, l9, fun hb2 => ?_, fun hb2 => ?_⟩, fun hb => ⟨fun hb2 => ?_, fun hb2 => ?_⟩⟩
        · have e := no (by simpa using hb)
          rw [e] at o1
          rw [o1] at hb2
          simp at hb2
        · have e := no (by simpa using hb)
          rw [e] at o2 ⊢
          exact ⟨hA, hB, near _ l11 o2, rfl, ⟨rfl, rfl, rfl, trivial⟩, rfl⟩
        · rw [hb] at hb2; cases hb2
        · have e := yes (by simpa using hb)
          rw [e] at o2 ⊢
          exact ⟨hA, hB, near _ l9 o2, rfl, ⟨rfl, rfl, rfl, trivial⟩, rfl⟩
    exact h
  · exact hc.1.elim
theorem card_point : FnOK Try.prog 19 cPoint :=
  FnOK_A (CxOK_cons card_pickBig (CxOK_cons card_cMult CxOK_nil)) (iv := fun _ => []) (N := 100) Try.func19 (by kernel_rfl) (by kernel_rfl) (fun ls => by unfold pointG; split; exact bnd_one (bnd_pt _); exact bnd_none) ok_point
theorem card_Secret : FnOK Try.prog 27 cSecret :=
  FnOK_A (CxOK_cons card_pickBig CxOK_nil) (iv := fun _ => []) (N := 100) Try.func27 (by kernel_rfl) (by kernel_rfl) (fun ls => by unfold secretG; split; exact bnd_one (bnd_U _); exact bnd_none) ok_Secret
theorem card_Lift : FnOK Try.prog 28 cLift :=
  FnOK_A (CxOK_cons card_be (CxOK_cons card_have (CxOK_cons card_right (CxOK_cons card_root (CxOK_cons card_hsub (CxOK_cons card_isOdd (CxOK_cons card_Cmp (CxOK_cons card_told CxOK_nil)))))))) (iv := fun _ => []) (N := 100) Try.func28 (by kernel_rfl) (by kernel_rfl) (fun ls => by
    unfold liftG
    split
    · exact bnd_two (bnd_pt (_, _, _)) (bnd_I _ _)
    · exact bnd_none) ok_Lift
theorem ok_cTells : Owes Try.prog cxCTells [] 100 Try.f21 [] yes := by
  rw [vc_cTells]
  have hr : red 2 12 false = (cX 0, cY 0, false) := by
    unfold red
    rw [small_mod (by decide), small_mod (by decide)]
    rfl
  have hg : goodP 43 0 7 31 (red 2 12 false) := by rw [hr]; exact good_all (i := 0) (by decide)
  have hcv : isCv 0 43 0 7 31 2 12 false := ⟨by decide, small_mod (by decide), small_mod (by decide), small_mod (by decide), small_mod (by decide), small_mod (by decide), small_mod (by decide), rfl⟩
  intro x1 x2 x3 x4
  exact ⟨by decide, hg, fun h => (by cases h), fun _ => (by decide), id, id, id, id, fun _ => hg, fun _ h => (by cases h), fun _ _ => (by decide), id, id, id, fun _ => hcv, fun _ => (by decide), id, id, id, id, fun _ => hcv, fun _ => (by decide), id, id, id, id, rfl⟩
theorem card_cTells : FnOK Try.prog 21 (spec0 yes) :=
  FnOK_0 (CxOK_cons card_Curve (CxOK_cons card_cOn (CxOK_cons card_point CxOK_nil))) (iv := []) (N := 100) Try.func21 (by kernel_rfl) (by kernel_rfl) (bnd_one (bnd_B _)) ok_cTells
end Go.Proofs.Ytbkginommedheaa
end

section
/-
  Laws of small curves.
-/
namespace Go.Proofs.Ytbkginommedheaa
open Go.Sx

theorem cx_facts {I : Nat} (hi : I < 8) : cP I % M256 = cP I ∧ cB I % M256 = cB I ∧ cN I % M256 = cN I ∧ red (cX I) (cY I) false = ptOf I 1 ∧ ixP (cP I) = I ∧ isCv I (cP I) 0 (cB I) (cN I) (cX I) (cY I) false ∧ goodP (cP I) 0 (cB I) (cN I) (ptOf I 1) := by
  obtain ⟨r1, r2⟩ := cP_range hi
  obtain ⟨n1, n2⟩ := cN_range hi
  have hg := good_all hi
  have hB := hg.B0
  have hxy : cX I < 1000 ∧ cY I < 1000 := by
    have : ∀ i : Fin 8, cX i.val < 1000 ∧ cY i.val < 1000 := by decide
    exact this ⟨I, hi⟩
  have mP := small_mod (v := cP I) (by omega)
  have mB := small_mod (v := cB I) (by omega)
  have mN := small_mod (v := cN I) (by omega)
  have mX := small_mod (v := cX I) (by omega)
  have mY := small_mod (v := cY I) (by omega)
  have e : red (cX I) (cY I) false = ptOf I 1 := by
    unfold red
    rw [mX, mY, base_pt hi]
  refine ⟨mP, mB, mN, e, ixP_of hi, ⟨hi, mP, Nat.zero_mod _, mB, mN, mX, mY, rfl⟩, ?_⟩
  rw [base_pt hi] at hg
  exact hg
theorem red_pt {I a : Nat} (hi : I < 8) (ha : a < cN I) : red (ptOf I a).1 (ptOf I a).2.1 (ptOf I a).2.2 = ptOf I a := red_same (inM_pt hi ha)
/-- A number's rest, as a place. -/
theorem rest_nat (I : Nat) (hi : I < 8) (i : Int) : (i % ((cN I : Nat) : Int)).toNat < cN I := by
  obtain ⟨n1, _⟩ := cN_range hi
  have m1 := Int.emod_nonneg i (show ((cN I : Nat) : Int) ≠ 0 by omega)
  have m2 := Int.emod_lt_of_pos i (show (0 : Int) < ((cN I : Nat) : Int) by omega)
  omega
theorem onE_pt {I a : Nat} (hi : I < 8) (ha : a < cN I) : onE (cP I) 0 (cB I) (ptOf I a) = 0 := by
  have h := onP_pt hi ha
  unfold onE
  split
  · rfl
  · rename_i hf
    have hf : (ptOf I a).2.2 = false := by simpa using hf
    rw [if_pos (h.near hf).2.2]
theorem same_pt (p : Pt) : conj [p.1 % M256 == p.1 % M256, p.2.1 % M256 == p.2.1 % M256, p.2.2 == p.2.2] = true := by
  simp [conj_all]
theorem ok_CurveGroups : ∀ n i j k : Int, i64ok n → i64ok i → i64ok j → i64ok k → Owes Try.prog cxCG [] 100 Try.f6 [sI .i64 n, sI .i64 i, sI .i64 j, sI .i64 k] yes := by
  intro n i j k hn hi' hj hk
  rw [vc_CurveGroups]
  have hI := ixN_lt n
  generalize ixN n = I at *
  obtain ⟨fP, fB, fN, fb, fx, fcv, fg⟩ := cx_facts hI
  have ha := rest_nat I hI i
  have hb := rest_nat I hI j
  have hc := rest_nat I hI k
  generalize hA : (i % ((cN I : Nat) : Int)).toNat = a at *
  generalize hB : (j % ((cN I : Nat) : Int)).toNat = b at *
  generalize hC : (k % ((cN I : Nat) : Int)).toNat = c at *
  have lt : ∀ v, v % cN I < cN I := fun v => Nat.mod_lt v (by omega)
  have ra := red_pt hI ha
  have rb := red_pt hI hb
  have rc := red_pt hI hc
  have rab := red_pt hI (lt (a + b))
  have rbc := red_pt hI (lt (b + c))
  obtain ⟨s1, c1⟩ := csum_pt hI ha hb
  obtain ⟨s2, c2⟩ := csum_pt hI hb hc
  obtain ⟨s3, c3⟩ := csum_pt hI (lt (a + b)) hc
  obtain ⟨s4, c4⟩ := csum_pt hI ha (lt (b + c))
  obtain ⟨s5, c5⟩ := csum_pt hI hb ha
  have e3 : ((a + b) % cN I + c) % cN I = (a + b + c) % cN I := Nat.mod_add_mod _ _ _
  have e4 : (a + (b + c) % cN I) % cN I = (a + b + c) % cN I := by rw [Nat.add_mod_mod, Nat.add_assoc]
  have e5 : (b + a) % cN I = (a + b) % cN I := by rw [Nat.add_comm]
  have oab := onP_pt hI (lt (a + b))
  have nab := onE_pt hI (lt (a + b))
  rw [e3] at c3
  rw [e4] at c4
  rw [e5] at c5
  simp only [fP, fx, fB, fN, fb, hA, hB, hC, ra, rb, rc, c1, c2, rab, rbc, c3, c4, c5, nab, same_pt]
  have oa := onP_pt hI ha
  have ob := onP_pt hI hb
  have oc := onP_pt hI hc
  have obc := onP_pt hI (lt (b + c))
  have mab := inM_pt hI (lt (a + b))
  refine ⟨hn, fcv, hi', fcv, hj, fcv, hk, fg, oa, ob, s1, fg, ob, oc, s2, fg, oab, oc, s3, fg, oa, obc, s4, fg, ob, oa, s5, id, id, id, id, id, id, id, id, id, id, id, id, id, id, id, id, id, id, fun _ => fg, fun _ hf => ?_, fun _ hf => ?_, id, id, rfl⟩
  · obtain ⟨z1, z2⟩ := oab.far hf
    rw [z1, z2]
    exact ⟨Nat.zero_mod _, Nat.zero_mod _⟩
  · obtain ⟨z1, z2, _⟩ := oab.near hf
    rw [Nat.mod_eq_of_lt mab.x, Nat.mod_eq_of_lt mab.y]
    exact ⟨z1, z2⟩
theorem cxok_CG : CxOK Try.prog cxCG := CxOK_cons card_Curve (CxOK_cons card_point (CxOK_cons card_cAdd (CxOK_cons card_cOn (CxOK_cons card_cTells CxOK_nil))))
end Go.Proofs.Ytbkginommedheaa
end
