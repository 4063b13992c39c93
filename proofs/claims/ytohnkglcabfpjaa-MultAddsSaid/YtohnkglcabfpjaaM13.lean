/-
  Texts: V16, P43, P44, P45, P46, P47.
-/
import Derived.Test.YtohnkglcabfpjaaM1
import Derived.Test.YtohnkglcabfpjaaM2
import Derived.Test.YtohnkglcabfpjaaM3
import Derived.Test.YtohnkglcabfpjaaM4
import Derived.Test.YtohnkglcabfpjaaM5
import Derived.Test.YtohnkglcabfpjaaM6
import Derived.Test.YtohnkglcabfpjaaM7
import Derived.Test.YtohnkglcabfpjaaM8
import Derived.Test.YtohnkglcabfpjaaM9
import Derived.Test.YtohnkglcabfpjaaM10
import Derived.Test.YtohnkglcabfpjaaM11
import Derived.Test.YtohnkglcabfpjaaM12
section
namespace Go.Proofs.Ytohnkglcabfpjaa
open Go.Sx
set_option maxRecDepth 100000
def cCurve : FSpec := specA [.int .i64] curveC curveG
def cxCG : Cx := [(10, cCurve), (11, cPoint), (12, cAddS'), (14, cOnS'), (13, spec0 yes)]
def cxCB : Cx := [(10, cCurve), (11, cPoint), (15, specUUU noC fsubG), (12, cAddS'), (16, cMultS'), (13, spec0 yes)]
def cxMA : Cx := [(10, cCurve), (11, cPoint), (18, specRaw rawG), (17, specUU dmG), (19, specUUU noC faddG), (20, specUUU noC fmulG), (12, cAddS'), (16, cMultS'), (13, spec0 yes)]
def cxCO : Cx := [(10, cCurve), (21, cPick), (11, cPoint), (22, cSecret), (16, cMultS'), (13, spec0 yes)]
def cxLB : Cx := [(10, cCurve), (21, cPick), (11, cPoint), (23, cLift), (13, spec0 yes)]
theorem vc_CurveGroups (n i j k : Int) :
    Owes Try.prog cxCG [] 100 Try.f3 [sI .i64 n, sI .i64 i, sI .i64 j, sI .i64 k] yes =
    (let x1 : Nat := cP (ixN n) % M256; let x2 : Nat := ixP x1; let x3 : Nat := cB (ixN n) % M256; let x4 : Int := (↑(cN x2) : Int); let x5 : Nat := (csum x1 0 (red (ptOf x2 (i % x4).toNat).fst (ptOf x2 (i % x4).toNat).snd.fst (ptOf x2 (i % x4).toNat).snd.snd) (red (ptOf x2 (j % x4).toNat).fst (ptOf x2 (j % x4).toNat).snd.fst (ptOf x2 (j % x4).toNat).snd.snd)).fst; let x6 : Nat := (csum x1 0 (red (ptOf x2 (i % x4).toNat).fst (ptOf x2 (i % x4).toNat).snd.fst (ptOf x2 (i % x4).toNat).snd.snd) (red (ptOf x2 (j % x4).toNat).fst (ptOf x2 (j % x4).toNat).snd.fst (ptOf x2 (j % x4).toNat).snd.snd)).snd.fst; let x7 : Bool := (csum x1 0 (red (ptOf x2 (i % x4).toNat).fst (ptOf x2 (i % x4).toNat).snd.fst (ptOf x2 (i % x4).toNat).snd.snd) (red (ptOf x2 (j % x4).toNat).fst (ptOf x2 (j % x4).toNat).snd.fst (ptOf x2 (j % x4).toNat).snd.snd)).snd.snd; let x8 : Bool := (0 : Int) == (0 : Int); let x9 : Bool := Bool.true && x8; let x10 : Bool := x9 && x8; let x11 : Bool := x10 && x8; let x12 : Bool := x11 && x8; let x13 : Bool := x12 && x8; let x14 : Bool := x13 && conj [(csum x1 0 (red x5 x6 x7) (red (ptOf x2 (k % x4).toNat).fst (ptOf x2 (k % x4).toNat).snd.fst (ptOf x2 (k % x4).toNat).snd.snd)).fst % M256 == (csum x1 0 (red (ptOf x2 (i % x4).toNat).fst (ptOf x2 (i % x4).toNat).snd.fst (ptOf x2 (i % x4).toNat).snd.snd) (red (csum x1 0 (red (ptOf x2 (j % x4).toNat).fst (ptOf x2 (j % x4).toNat).snd.fst (ptOf x2 (j % x4).toNat).snd.snd) (red (ptOf x2 (k % x4).toNat).fst (ptOf x2 (k % x4).toNat).snd.fst (ptOf x2 (k % x4).toNat).snd.snd)).fst (csum x1 0 (red (ptOf x2 (j % x4).toNat).fst (ptOf x2 (j % x4).toNat).snd.fst (ptOf x2 (j % x4).toNat).snd.snd) (red (ptOf x2 (k % x4).toNat).fst (ptOf x2 (k % x4).toNat).snd.fst (ptOf x2 (k % x4).toNat).snd.snd)).snd.fst (csum x1 0 (red (ptOf x2 (j % x4).toNat).fst (ptOf x2 (j % x4).toNat).snd.fst (ptOf x2 (j % x4).toNat).snd.snd) (red (ptOf x2 (k % x4).toNat).fst (ptOf x2 (k % x4).toNat).snd.fst (ptOf x2 (k % x4).toNat).snd.snd)).snd.snd)).fst % M256, (csum x1 0 (red x5 x6 x7) (red (ptOf x2 (k % x4).toNat).fst (ptOf x2 (k % x4).toNat).snd.fst (ptOf x2 (k % x4).toNat).snd.snd)).snd.fst % M256 == (csum x1 0 (red (ptOf x2 (i % x4).toNat).fst (ptOf x2 (i % x4).toNat).snd.fst (ptOf x2 (i % x4).toNat).snd.snd) (red (csum x1 0 (red (ptOf x2 (j % x4).toNat).fst (ptOf x2 (j % x4).toNat).snd.fst (ptOf x2 (j % x4).toNat).snd.snd) (red (ptOf x2 (k % x4).toNat).fst (ptOf x2 (k % x4).toNat).snd.fst (ptOf x2 (k % x4).toNat).snd.snd)).fst (csum x1 0 (red (ptOf x2 (j % x4).toNat).fst (ptOf x2 (j % x4).toNat).snd.fst (ptOf x2 (j % x4).toNat).snd.snd) (red (ptOf x2 (k % x4).toNat).fst (ptOf x2 (k % x4).toNat).snd.fst (ptOf x2 (k % x4).toNat).snd.snd)).snd.fst (csum x1 0 (red (ptOf x2 (j % x4).toNat).fst (ptOf x2 (j % x4).toNat).snd.fst (ptOf x2 (j % x4).toNat).snd.snd) (red (ptOf x2 (k % x4).toNat).fst (ptOf x2 (k % x4).toNat).snd.fst (ptOf x2 (k % x4).toNat).snd.snd)).snd.snd)).snd.fst % M256, (csum x1 0 (red x5 x6 x7) (red (ptOf x2 (k % x4).toNat).fst (ptOf x2 (k % x4).toNat).snd.fst (ptOf x2 (k % x4).toNat).snd.snd)).snd.snd == (csum x1 0 (red (ptOf x2 (i % x4).toNat).fst (ptOf x2 (i % x4).toNat).snd.fst (ptOf x2 (i % x4).toNat).snd.snd) (red (csum x1 0 (red (ptOf x2 (j % x4).toNat).fst (ptOf x2 (j % x4).toNat).snd.fst (ptOf x2 (j % x4).toNat).snd.snd) (red (ptOf x2 (k % x4).toNat).fst (ptOf x2 (k % x4).toNat).snd.fst (ptOf x2 (k % x4).toNat).snd.snd)).fst (csum x1 0 (red (ptOf x2 (j % x4).toNat).fst (ptOf x2 (j % x4).toNat).snd.fst (ptOf x2 (j % x4).toNat).snd.snd) (red (ptOf x2 (k % x4).toNat).fst (ptOf x2 (k % x4).toNat).snd.fst (ptOf x2 (k % x4).toNat).snd.snd)).snd.fst (csum x1 0 (red (ptOf x2 (j % x4).toNat).fst (ptOf x2 (j % x4).toNat).snd.fst (ptOf x2 (j % x4).toNat).snd.snd) (red (ptOf x2 (k % x4).toNat).fst (ptOf x2 (k % x4).toNat).snd.fst (ptOf x2 (k % x4).toNat).snd.snd)).snd.snd)).snd.snd]; let x15 : Nat := x5 % M256; let x16 : Nat := x6 % M256; let x17 : Bool := x14 && conj [x15 == (csum x1 0 (red (ptOf x2 (j % x4).toNat).fst (ptOf x2 (j % x4).toNat).snd.fst (ptOf x2 (j % x4).toNat).snd.snd) (red (ptOf x2 (i % x4).toNat).fst (ptOf x2 (i % x4).toNat).snd.fst (ptOf x2 (i % x4).toNat).snd.snd)).fst % M256, x16 == (csum x1 0 (red (ptOf x2 (j % x4).toNat).fst (ptOf x2 (j % x4).toNat).snd.fst (ptOf x2 (j % x4).toNat).snd.snd) (red (ptOf x2 (i % x4).toNat).fst (ptOf x2 (i % x4).toNat).snd.fst (ptOf x2 (i % x4).toNat).snd.snd)).snd.fst % M256, x7 == (csum x1 0 (red (ptOf x2 (j % x4).toNat).fst (ptOf x2 (j % x4).toNat).snd.fst (ptOf x2 (j % x4).toNat).snd.snd) (red (ptOf x2 (i % x4).toNat).fst (ptOf x2 (i % x4).toNat).snd.fst (ptOf x2 (i % x4).toNat).snd.snd)).snd.snd]; ((-9223372036854775808 : Int) ≤ n ∧ n ≤ (9223372036854775807 : Int)) ∧ isCv x2 (cP (ixN n)) 0 (cB (ixN n)) (cN (ixN n)) (cX (ixN n)) (cY (ixN n)) Bool.false ∧ ((-9223372036854775808 : Int) ≤ i ∧ i ≤ (9223372036854775807 : Int)) ∧ isCv x2 (cP (ixN n)) 0 (cB (ixN n)) (cN (ixN n)) (cX (ixN n)) (cY (ixN n)) Bool.false ∧ ((-9223372036854775808 : Int) ≤ j ∧ j ≤ (9223372036854775807 : Int)) ∧ isCv x2 (cP (ixN n)) 0 (cB (ixN n)) (cN (ixN n)) (cX (ixN n)) (cY (ixN n)) Bool.false ∧ ((-9223372036854775808 : Int) ≤ k ∧ k ≤ (9223372036854775807 : Int)) ∧ goodP x1 0 x3 (cN (ixN n) % M256) (red (cX (ixN n)) (cY (ixN n)) Bool.false) ∧ onP x1 0 x3 (red (ptOf x2 (i % x4).toNat).fst (ptOf x2 (i % x4).toNat).snd.fst (ptOf x2 (i % x4).toNat).snd.snd) ∧ onP x1 0 x3 (red (ptOf x2 (j % x4).toNat).fst (ptOf x2 (j % x4).toNat).snd.fst (ptOf x2 (j % x4).toNat).snd.snd) ∧ sumOK x1 0 (red (ptOf x2 (i % x4).toNat).fst (ptOf x2 (i % x4).toNat).snd.fst (ptOf x2 (i % x4).toNat).snd.snd) (red (ptOf x2 (j % x4).toNat).fst (ptOf x2 (j % x4).toNat).snd.fst (ptOf x2 (j % x4).toNat).snd.snd) ∧ goodP x1 0 x3 (cN (ixN n) % M256) (red (cX (ixN n)) (cY (ixN n)) Bool.false) ∧ onP x1 0 x3 (red (ptOf x2 (j % x4).toNat).fst (ptOf x2 (j % x4).toNat).snd.fst (ptOf x2 (j % x4).toNat).snd.snd) ∧ onP x1 0 x3 (red (ptOf x2 (k % x4).toNat).fst (ptOf x2 (k % x4).toNat).snd.fst (ptOf x2 (k % x4).toNat).snd.snd) ∧ sumOK x1 0 (red (ptOf x2 (j % x4).toNat).fst (ptOf x2 (j % x4).toNat).snd.fst (ptOf x2 (j % x4).toNat).snd.snd) (red (ptOf x2 (k % x4).toNat).fst (ptOf x2 (k % x4).toNat).snd.fst (ptOf x2 (k % x4).toNat).snd.snd) ∧ goodP x1 0 x3 (cN (ixN n) % M256) (red (cX (ixN n)) (cY (ixN n)) Bool.false) ∧ onP x1 0 x3 (red x5 x6 x7) ∧ onP x1 0 x3 (red (ptOf x2 (k % x4).toNat).fst (ptOf x2 (k % x4).toNat).snd.fst (ptOf x2 (k % x4).toNat).snd.snd) ∧ sumOK x1 0 (red x5 x6 x7) (red (ptOf x2 (k % x4).toNat).fst (ptOf x2 (k % x4).toNat).snd.fst (ptOf x2 (k % x4).toNat).snd.snd) ∧ goodP x1 0 x3 (cN (ixN n) % M256) (red (cX (ixN n)) (cY (ixN n)) Bool.false) ∧ onP x1 0 x3 (red (ptOf x2 (i % x4).toNat).fst (ptOf x2 (i % x4).toNat).snd.fst (ptOf x2 (i % x4).toNat).snd.snd) ∧ onP x1 0 x3 (red (csum x1 0 (red (ptOf x2 (j % x4).toNat).fst (ptOf x2 (j % x4).toNat).snd.fst (ptOf x2 (j % x4).toNat).snd.snd) (red (ptOf x2 (k % x4).toNat).fst (ptOf x2 (k % x4).toNat).snd.fst (ptOf x2 (k % x4).toNat).snd.snd)).fst (csum x1 0 (red (ptOf x2 (j % x4).toNat).fst (ptOf x2 (j % x4).toNat).snd.fst (ptOf x2 (j % x4).toNat).snd.snd) (red (ptOf x2 (k % x4).toNat).fst (ptOf x2 (k % x4).toNat).snd.fst (ptOf x2 (k % x4).toNat).snd.snd)).snd.fst (csum x1 0 (red (ptOf x2 (j % x4).toNat).fst (ptOf x2 (j % x4).toNat).snd.fst (ptOf x2 (j % x4).toNat).snd.snd) (red (ptOf x2 (k % x4).toNat).fst (ptOf x2 (k % x4).toNat).snd.fst (ptOf x2 (k % x4).toNat).snd.snd)).snd.snd) ∧ sumOK x1 0 (red (ptOf x2 (i % x4).toNat).fst (ptOf x2 (i % x4).toNat).snd.fst (ptOf x2 (i % x4).toNat).snd.snd) (red (csum x1 0 (red (ptOf x2 (j % x4).toNat).fst (ptOf x2 (j % x4).toNat).snd.fst (ptOf x2 (j % x4).toNat).snd.snd) (red (ptOf x2 (k % x4).toNat).fst (ptOf x2 (k % x4).toNat).snd.fst (ptOf x2 (k % x4).toNat).snd.snd)).fst (csum x1 0 (red (ptOf x2 (j % x4).toNat).fst (ptOf x2 (j % x4).toNat).snd.fst (ptOf x2 (j % x4).toNat).snd.snd) (red (ptOf x2 (k % x4).toNat).fst (ptOf x2 (k % x4).toNat).snd.fst (ptOf x2 (k % x4).toNat).snd.snd)).snd.fst (csum x1 0 (red (ptOf x2 (j % x4).toNat).fst (ptOf x2 (j % x4).toNat).snd.fst (ptOf x2 (j % x4).toNat).snd.snd) (red (ptOf x2 (k % x4).toNat).fst (ptOf x2 (k % x4).toNat).snd.fst (ptOf x2 (k % x4).toNat).snd.snd)).snd.snd) ∧ goodP x1 0 x3 (cN (ixN n) % M256) (red (cX (ixN n)) (cY (ixN n)) Bool.false) ∧ onP x1 0 x3 (red (ptOf x2 (j % x4).toNat).fst (ptOf x2 (j % x4).toNat).snd.fst (ptOf x2 (j % x4).toNat).snd.snd) ∧ onP x1 0 x3 (red (ptOf x2 (i % x4).toNat).fst (ptOf x2 (i % x4).toNat).snd.fst (ptOf x2 (i % x4).toNat).snd.snd) ∧ sumOK x1 0 (red (ptOf x2 (j % x4).toNat).fst (ptOf x2 (j % x4).toNat).snd.fst (ptOf x2 (j % x4).toNat).snd.snd) (red (ptOf x2 (i % x4).toNat).fst (ptOf x2 (i % x4).toNat).snd.fst (ptOf x2 (i % x4).toNat).snd.snd) ∧ (Bool.true = Bool.true → Bool.true = Bool.true) ∧ (Bool.true = Bool.true → Bool.true = Bool.true) ∧ (x9 = Bool.true → x9 = Bool.true) ∧ (x9 = Bool.true → x9 = Bool.true) ∧ (x10 = Bool.true → x10 = Bool.true) ∧ (x10 = Bool.true → x10 = Bool.true) ∧ (x11 = Bool.true → x11 = Bool.true) ∧ (x11 = Bool.true → x11 = Bool.true) ∧ (x12 = Bool.true → x12 = Bool.true) ∧ (x12 = Bool.true → x12 = Bool.true) ∧ (x13 = Bool.true → x13 = Bool.true) ∧ (x13 = Bool.true → x13 = Bool.true) ∧ (x13 = Bool.true → x13 = Bool.true) ∧ (x14 = Bool.true → x14 = Bool.true) ∧ (x14 = Bool.true → x14 = Bool.true) ∧ (x14 = Bool.true → x14 = Bool.true) ∧ (x17 = Bool.true → x17 = Bool.true) ∧ (x17 = Bool.true → x17 = Bool.true) ∧ (x17 = Bool.true → goodP x1 0 x3 (cN (ixN n) % M256) (red (cX (ixN n)) (cY (ixN n)) Bool.false)) ∧ (x17 = Bool.true → x7 = Bool.true → x15 = 0 ∧ x16 = 0) ∧ (x17 = Bool.true → x7 = Bool.false → x15 < x1 ∧ x16 < x1) ∧ (x17 = Bool.true → x17 = Bool.true) ∧ (x17 = Bool.true → x17 = Bool.true) ∧ (x17 && onE x1 0 x3 (red x5 x6 x7) == (0 : Int)) = Bool.true) := by kernel_rfl
theorem vc_CurveBack (n i : Int) :
    Owes Try.prog cxCB [] 100 Try.f4 [sI .i64 n, sI .i64 i] yes =
    (let x1 : Nat := cP (ixN n) % M256; let x2 : Nat := ixP x1; let x3 : Bool := (ptOf x2 (i % (↑(cN x2) : Int)).toNat).snd.snd; let x4 : Nat := cB (ixN n) % M256; let x5 : Nat := (ptOf x2 (i % (↑(cN x2) : Int)).toNat).fst; let x6 : Nat := (ptOf x2 (i % (↑(cN x2) : Int)).toNat).snd.fst; let x7 : Int := fE 0 x6 (cP (ixN n)); let x8 : Nat := x6 % M256; let x9 : Nat := if x7 = (0 : Int) then (0 + x1 - x8) % x1 else 0; let x10 : Int := Go.IntKind.u64.wrap (limb (cN (ixN n)) 0 - (1 : Int)); let x11 : Nat := join x10 (0 : Int) (0 : Int) (0 : Int) % M256; let x12 : Bool := (0 : Int) == (0 : Int); let x13 : Bool := Bool.true && x12; let x14 : Bool := x13 && x12; let x15 : Bool := x14 && x12; let x16 : Bool := x15 && conj [(csum x1 0 (red x5 x6 x3) (red x5 x9 x3)).fst % M256 == 0, (csum x1 0 (red x5 x6 x3) (red x5 x9 x3)).snd.fst % M256 == 0, (csum x1 0 (red x5 x6 x3) (red x5 x9 x3)).snd.snd == Bool.true]; let x17 : Nat := x5 % M256; let x18 : Bool := conj [(csum x1 0 (red x5 x6 x3) (red 0 0 Bool.true)).fst % M256 == x17, (csum x1 0 (red x5 x6 x3) (red 0 0 Bool.true)).snd.fst % M256 == x8, (csum x1 0 (red x5 x6 x3) (red 0 0 Bool.true)).snd.snd == x3]; let x19 : Bool := x16 && x18; let x20 : Bool := x15 && conj [(csum x1 0 (red x5 x6 x3) (red x5 x6 x3)).fst % M256 == 0, (csum x1 0 (red x5 x6 x3) (red x5 x6 x3)).snd.fst % M256 == 0, (csum x1 0 (red x5 x6 x3) (red x5 x6 x3)).snd.snd == Bool.true]; let x21 : Bool := x20 && x18; ((-9223372036854775808 : Int) ≤ n ∧ n ≤ (9223372036854775807 : Int)) ∧ isCv x2 (cP (ixN n)) 0 (cB (ixN n)) (cN (ixN n)) (cX (ixN n)) (cY (ixN n)) Bool.false ∧ ((-9223372036854775808 : Int) ≤ i ∧ i ≤ (9223372036854775807 : Int)) ∧ ((!x3) = Bool.true → goodP x1 0 x4 (cN (ixN n) % M256) (red (cX (ixN n)) (cY (ixN n)) Bool.false) ∧ onP x1 0 x4 (red x5 x6 x3) ∧ onP x1 0 x4 (red x5 x9 x3) ∧ sumOK x1 0 (red x5 x6 x3) (red x5 x9 x3) ∧ goodP x1 0 x4 (cN (ixN n) % M256) (red (cX (ixN n)) (cY (ixN n)) Bool.false) ∧ onP x1 0 x4 (red x5 x6 x3) ∧ onP x1 0 x4 (red 0 0 Bool.true) ∧ sumOK x1 0 (red x5 x6 x3) (red 0 0 Bool.true) ∧ ((0 : Int) ≤ x10 ∧ x10 < (18446744073709551616 : Int)) ∧ ((0 : Int) ≤ (0 : Int) ∧ (0 : Int) < (18446744073709551616 : Int)) ∧ ((0 : Int) ≤ (0 : Int) ∧ (0 : Int) < (18446744073709551616 : Int)) ∧ ((0 : Int) ≤ (0 : Int) ∧ (0 : Int) < (18446744073709551616 : Int)) ∧ goodP x1 0 x4 (cN (ixN n) % M256) (red (cX (ixN n)) (cY (ixN n)) Bool.false) ∧ onP x1 0 x4 (red x5 x6 x3) ∧ mulOK x1 0 x11 (red x5 x6 x3) ∧ (Bool.true = Bool.true → Bool.true = Bool.true) ∧ (Bool.true = Bool.true → Bool.true = Bool.true) ∧ (x13 = Bool.true → x13 = Bool.true) ∧ (x13 = Bool.true → x13 = Bool.true) ∧ (x14 = Bool.true → x14 = Bool.true) ∧ (x14 = Bool.true → x14 = Bool.true) ∧ (x15 = Bool.true → x15 = Bool.true) ∧ (x15 = Bool.true → x15 = Bool.true) ∧ (x15 = Bool.true → x15 = Bool.true) ∧ (x16 = Bool.true → x16 = Bool.true) ∧ (x16 = Bool.true → x16 = Bool.true) ∧ (x16 = Bool.true → x16 = Bool.true) ∧ (x19 = Bool.true → x19 = Bool.true) ∧ (x19 = Bool.true → x19 = Bool.true) ∧ (x19 = Bool.true → x19 = Bool.true) ∧ (x19 && conj [(cmulR x1 0 x11 (red x5 x6 x3) 256).fst % M256 == x17, (cmulR x1 0 x11 (red x5 x6 x3) 256).snd.fst % M256 == x9 % M256, (cmulR x1 0 x11 (red x5 x6 x3) 256).snd.snd == x3]) = Bool.true) ∧ ((!x3) = Bool.false → goodP x1 0 x4 (cN (ixN n) % M256) (red (cX (ixN n)) (cY (ixN n)) Bool.false) ∧ onP x1 0 x4 (red x5 x6 x3) ∧ onP x1 0 x4 (red x5 x6 x3) ∧ sumOK x1 0 (red x5 x6 x3) (red x5 x6 x3) ∧ goodP x1 0 x4 (cN (ixN n) % M256) (red (cX (ixN n)) (cY (ixN n)) Bool.false) ∧ onP x1 0 x4 (red x5 x6 x3) ∧ onP x1 0 x4 (red 0 0 Bool.true) ∧ sumOK x1 0 (red x5 x6 x3) (red 0 0 Bool.true) ∧ ((0 : Int) ≤ x10 ∧ x10 < (18446744073709551616 : Int)) ∧ ((0 : Int) ≤ (0 : Int) ∧ (0 : Int) < (18446744073709551616 : Int)) ∧ ((0 : Int) ≤ (0 : Int) ∧ (0 : Int) < (18446744073709551616 : Int)) ∧ ((0 : Int) ≤ (0 : Int) ∧ (0 : Int) < (18446744073709551616 : Int)) ∧ goodP x1 0 x4 (cN (ixN n) % M256) (red (cX (ixN n)) (cY (ixN n)) Bool.false) ∧ onP x1 0 x4 (red x5 x6 x3) ∧ mulOK x1 0 x11 (red x5 x6 x3) ∧ (Bool.true = Bool.true → Bool.true = Bool.true) ∧ (Bool.true = Bool.true → Bool.true = Bool.true) ∧ (x13 = Bool.true → x13 = Bool.true) ∧ (x13 = Bool.true → x13 = Bool.true) ∧ (x14 = Bool.true → x14 = Bool.true) ∧ (x14 = Bool.true → x14 = Bool.true) ∧ (x15 = Bool.true → x15 = Bool.true) ∧ (x15 = Bool.true → x15 = Bool.true) ∧ (x15 = Bool.true → x15 = Bool.true) ∧ (x20 = Bool.true → x20 = Bool.true) ∧ (x20 = Bool.true → x20 = Bool.true) ∧ (x20 = Bool.true → x20 = Bool.true) ∧ (x21 = Bool.true → x21 = Bool.true) ∧ (x21 = Bool.true → x21 = Bool.true) ∧ (x21 = Bool.true → x21 = Bool.true) ∧ (x21 && conj [(cmulR x1 0 x11 (red x5 x6 x3) 256).fst % M256 == x17, (cmulR x1 0 x11 (red x5 x6 x3) 256).snd.fst % M256 == x8, (cmulR x1 0 x11 (red x5 x6 x3) 256).snd.snd == x3]) = Bool.true)) := by kernel_rfl
theorem vc_MultAdds (n i : Int) (k a b : Int) (s : ByteArray) (k' a' b' : Int) (s' : ByteArray) :
    Owes Try.prog cxMA [] 100 Try.f5 [sI .i64 n, sI .i64 i, sRaw k a b s, sRaw k' a' b' s'] yes =
    (let x1 : Nat := cP (ixN n) % M256; let x2 : Nat := ixP x1; let x3 : Nat := cB (ixN n) % M256; let x4 : Nat := cN (ixN n) % M256; let x5 : Nat := rawN k a b % M256; let x6 : Nat := if x4 = 0 then 0 else rawN k' a' b' % M256 % x4; let x7 : Nat := x6 % M256; let x8 : Nat := if x4 = 0 then 0 else x5 % x4; let x9 : Int := fE x8 x6 (cN (ixN n)); let x10 : Nat := x8 % M256; let x11 : Nat := (if x9 = (0 : Int) then (x10 + x7) % x4 else 0) % M256; let x12 : Nat := (if x9 = (0 : Int) then x10 * x7 % x4 else 0) % M256; let x13 : Bool := (0 : Int) == (0 : Int); let x14 : Bool := Bool.true && x13; let x15 : Bool := x14 && x13; let x16 : Bool := x15 && x13; let x17 : Bool := x16 && x13; let x18 : Bool := x17 && x13; let x19 : Bool := x18 && x13; let x20 : Bool := x19 && conj [(csum x1 0 (red (cmulR x1 0 x5 (red (ptOf x2 (i % (↑(cN x2) : Int)).toNat).fst (ptOf x2 (i % (↑(cN x2) : Int)).toNat).snd.fst (ptOf x2 (i % (↑(cN x2) : Int)).toNat).snd.snd) 256).fst (cmulR x1 0 x5 (red (ptOf x2 (i % (↑(cN x2) : Int)).toNat).fst (ptOf x2 (i % (↑(cN x2) : Int)).toNat).snd.fst (ptOf x2 (i % (↑(cN x2) : Int)).toNat).snd.snd) 256).snd.fst (cmulR x1 0 x5 (red (ptOf x2 (i % (↑(cN x2) : Int)).toNat).fst (ptOf x2 (i % (↑(cN x2) : Int)).toNat).snd.fst (ptOf x2 (i % (↑(cN x2) : Int)).toNat).snd.snd) 256).snd.snd) (red (cmulR x1 0 x7 (red (ptOf x2 (i % (↑(cN x2) : Int)).toNat).fst (ptOf x2 (i % (↑(cN x2) : Int)).toNat).snd.fst (ptOf x2 (i % (↑(cN x2) : Int)).toNat).snd.snd) 256).fst (cmulR x1 0 x7 (red (ptOf x2 (i % (↑(cN x2) : Int)).toNat).fst (ptOf x2 (i % (↑(cN x2) : Int)).toNat).snd.fst (ptOf x2 (i % (↑(cN x2) : Int)).toNat).snd.snd) 256).snd.fst (cmulR x1 0 x7 (red (ptOf x2 (i % (↑(cN x2) : Int)).toNat).fst (ptOf x2 (i % (↑(cN x2) : Int)).toNat).snd.fst (ptOf x2 (i % (↑(cN x2) : Int)).toNat).snd.snd) 256).snd.snd)).fst % M256 == (cmulR x1 0 x11 (red (ptOf x2 (i % (↑(cN x2) : Int)).toNat).fst (ptOf x2 (i % (↑(cN x2) : Int)).toNat).snd.fst (ptOf x2 (i % (↑(cN x2) : Int)).toNat).snd.snd) 256).fst % M256, (csum x1 0 (red (cmulR x1 0 x5 (red (ptOf x2 (i % (↑(cN x2) : Int)).toNat).fst (ptOf x2 (i % (↑(cN x2) : Int)).toNat).snd.fst (ptOf x2 (i % (↑(cN x2) : Int)).toNat).snd.snd) 256).fst (cmulR x1 0 x5 (red (ptOf x2 (i % (↑(cN x2) : Int)).toNat).fst (ptOf x2 (i % (↑(cN x2) : Int)).toNat).snd.fst (ptOf x2 (i % (↑(cN x2) : Int)).toNat).snd.snd) 256).snd.fst (cmulR x1 0 x5 (red (ptOf x2 (i % (↑(cN x2) : Int)).toNat).fst (ptOf x2 (i % (↑(cN x2) : Int)).toNat).snd.fst (ptOf x2 (i % (↑(cN x2) : Int)).toNat).snd.snd) 256).snd.snd) (red (cmulR x1 0 x7 (red (ptOf x2 (i % (↑(cN x2) : Int)).toNat).fst (ptOf x2 (i % (↑(cN x2) : Int)).toNat).snd.fst (ptOf x2 (i % (↑(cN x2) : Int)).toNat).snd.snd) 256).fst (cmulR x1 0 x7 (red (ptOf x2 (i % (↑(cN x2) : Int)).toNat).fst (ptOf x2 (i % (↑(cN x2) : Int)).toNat).snd.fst (ptOf x2 (i % (↑(cN x2) : Int)).toNat).snd.snd) 256).snd.fst (cmulR x1 0 x7 (red (ptOf x2 (i % (↑(cN x2) : Int)).toNat).fst (ptOf x2 (i % (↑(cN x2) : Int)).toNat).snd.fst (ptOf x2 (i % (↑(cN x2) : Int)).toNat).snd.snd) 256).snd.snd)).snd.fst % M256 == (cmulR x1 0 x11 (red (ptOf x2 (i % (↑(cN x2) : Int)).toNat).fst (ptOf x2 (i % (↑(cN x2) : Int)).toNat).snd.fst (ptOf x2 (i % (↑(cN x2) : Int)).toNat).snd.snd) 256).snd.fst % M256, (csum x1 0 (red (cmulR x1 0 x5 (red (ptOf x2 (i % (↑(cN x2) : Int)).toNat).fst (ptOf x2 (i % (↑(cN x2) : Int)).toNat).snd.fst (ptOf x2 (i % (↑(cN x2) : Int)).toNat).snd.snd) 256).fst (cmulR x1 0 x5 (red (ptOf x2 (i % (↑(cN x2) : Int)).toNat).fst (ptOf x2 (i % (↑(cN x2) : Int)).toNat).snd.fst (ptOf x2 (i % (↑(cN x2) : Int)).toNat).snd.snd) 256).snd.fst (cmulR x1 0 x5 (red (ptOf x2 (i % (↑(cN x2) : Int)).toNat).fst (ptOf x2 (i % (↑(cN x2) : Int)).toNat).snd.fst (ptOf x2 (i % (↑(cN x2) : Int)).toNat).snd.snd) 256).snd.snd) (red (cmulR x1 0 x7 (red (ptOf x2 (i % (↑(cN x2) : Int)).toNat).fst (ptOf x2 (i % (↑(cN x2) : Int)).toNat).snd.fst (ptOf x2 (i % (↑(cN x2) : Int)).toNat).snd.snd) 256).fst (cmulR x1 0 x7 (red (ptOf x2 (i % (↑(cN x2) : Int)).toNat).fst (ptOf x2 (i % (↑(cN x2) : Int)).toNat).snd.fst (ptOf x2 (i % (↑(cN x2) : Int)).toNat).snd.snd) 256).snd.fst (cmulR x1 0 x7 (red (ptOf x2 (i % (↑(cN x2) : Int)).toNat).fst (ptOf x2 (i % (↑(cN x2) : Int)).toNat).snd.fst (ptOf x2 (i % (↑(cN x2) : Int)).toNat).snd.snd) 256).snd.snd)).snd.snd == (cmulR x1 0 x11 (red (ptOf x2 (i % (↑(cN x2) : Int)).toNat).fst (ptOf x2 (i % (↑(cN x2) : Int)).toNat).snd.fst (ptOf x2 (i % (↑(cN x2) : Int)).toNat).snd.snd) 256).snd.snd]; ((-9223372036854775808 : Int) ≤ n ∧ n ≤ (9223372036854775807 : Int)) ∧ isCv x2 (cP (ixN n)) 0 (cB (ixN n)) (cN (ixN n)) (cX (ixN n)) (cY (ixN n)) Bool.false ∧ ((-9223372036854775808 : Int) ≤ i ∧ i ≤ (9223372036854775807 : Int)) ∧ ((-9223372036854775808 : Int) ≤ k ∧ k ≤ (9223372036854775807 : Int)) ∧ ((-9223372036854775808 : Int) ≤ a ∧ a ≤ (9223372036854775807 : Int)) ∧ ((-9223372036854775808 : Int) ≤ b ∧ b ≤ (9223372036854775807 : Int)) ∧ ((-9223372036854775808 : Int) ≤ k' ∧ k' ≤ (9223372036854775807 : Int)) ∧ ((-9223372036854775808 : Int) ≤ a' ∧ a' ≤ (9223372036854775807 : Int)) ∧ ((-9223372036854775808 : Int) ≤ b' ∧ b' ≤ (9223372036854775807 : Int)) ∧ ((-9223372036854775808 : Int) ≤ k ∧ k ≤ (9223372036854775807 : Int)) ∧ ((-9223372036854775808 : Int) ≤ a ∧ a ≤ (9223372036854775807 : Int)) ∧ ((-9223372036854775808 : Int) ≤ b ∧ b ≤ (9223372036854775807 : Int)) ∧ goodP x1 0 x3 x4 (red (cX (ixN n)) (cY (ixN n)) Bool.false) ∧ onP x1 0 x3 (red (ptOf x2 (i % (↑(cN x2) : Int)).toNat).fst (ptOf x2 (i % (↑(cN x2) : Int)).toNat).snd.fst (ptOf x2 (i % (↑(cN x2) : Int)).toNat).snd.snd) ∧ mulOK x1 0 x5 (red (ptOf x2 (i % (↑(cN x2) : Int)).toNat).fst (ptOf x2 (i % (↑(cN x2) : Int)).toNat).snd.fst (ptOf x2 (i % (↑(cN x2) : Int)).toNat).snd.snd) ∧ goodP x1 0 x3 x4 (red (cX (ixN n)) (cY (ixN n)) Bool.false) ∧ onP x1 0 x3 (red (ptOf x2 (i % (↑(cN x2) : Int)).toNat).fst (ptOf x2 (i % (↑(cN x2) : Int)).toNat).snd.fst (ptOf x2 (i % (↑(cN x2) : Int)).toNat).snd.snd) ∧ mulOK x1 0 x7 (red (ptOf x2 (i % (↑(cN x2) : Int)).toNat).fst (ptOf x2 (i % (↑(cN x2) : Int)).toNat).snd.fst (ptOf x2 (i % (↑(cN x2) : Int)).toNat).snd.snd) ∧ goodP x1 0 x3 x4 (red (cX (ixN n)) (cY (ixN n)) Bool.false) ∧ onP x1 0 x3 (red (cmulR x1 0 x5 (red (ptOf x2 (i % (↑(cN x2) : Int)).toNat).fst (ptOf x2 (i % (↑(cN x2) : Int)).toNat).snd.fst (ptOf x2 (i % (↑(cN x2) : Int)).toNat).snd.snd) 256).fst (cmulR x1 0 x5 (red (ptOf x2 (i % (↑(cN x2) : Int)).toNat).fst (ptOf x2 (i % (↑(cN x2) : Int)).toNat).snd.fst (ptOf x2 (i % (↑(cN x2) : Int)).toNat).snd.snd) 256).snd.fst (cmulR x1 0 x5 (red (ptOf x2 (i % (↑(cN x2) : Int)).toNat).fst (ptOf x2 (i % (↑(cN x2) : Int)).toNat).snd.fst (ptOf x2 (i % (↑(cN x2) : Int)).toNat).snd.snd) 256).snd.snd) ∧ onP x1 0 x3 (red (cmulR x1 0 x7 (red (ptOf x2 (i % (↑(cN x2) : Int)).toNat).fst (ptOf x2 (i % (↑(cN x2) : Int)).toNat).snd.fst (ptOf x2 (i % (↑(cN x2) : Int)).toNat).snd.snd) 256).fst (cmulR x1 0 x7 (red (ptOf x2 (i % (↑(cN x2) : Int)).toNat).fst (ptOf x2 (i % (↑(cN x2) : Int)).toNat).snd.fst (ptOf x2 (i % (↑(cN x2) : Int)).toNat).snd.snd) 256).snd.fst (cmulR x1 0 x7 (red (ptOf x2 (i % (↑(cN x2) : Int)).toNat).fst (ptOf x2 (i % (↑(cN x2) : Int)).toNat).snd.fst (ptOf x2 (i % (↑(cN x2) : Int)).toNat).snd.snd) 256).snd.snd) ∧ sumOK x1 0 (red (cmulR x1 0 x5 (red (ptOf x2 (i % (↑(cN x2) : Int)).toNat).fst (ptOf x2 (i % (↑(cN x2) : Int)).toNat).snd.fst (ptOf x2 (i % (↑(cN x2) : Int)).toNat).snd.snd) 256).fst (cmulR x1 0 x5 (red (ptOf x2 (i % (↑(cN x2) : Int)).toNat).fst (ptOf x2 (i % (↑(cN x2) : Int)).toNat).snd.fst (ptOf x2 (i % (↑(cN x2) : Int)).toNat).snd.snd) 256).snd.fst (cmulR x1 0 x5 (red (ptOf x2 (i % (↑(cN x2) : Int)).toNat).fst (ptOf x2 (i % (↑(cN x2) : Int)).toNat).snd.fst (ptOf x2 (i % (↑(cN x2) : Int)).toNat).snd.snd) 256).snd.snd) (red (cmulR x1 0 x7 (red (ptOf x2 (i % (↑(cN x2) : Int)).toNat).fst (ptOf x2 (i % (↑(cN x2) : Int)).toNat).snd.fst (ptOf x2 (i % (↑(cN x2) : Int)).toNat).snd.snd) 256).fst (cmulR x1 0 x7 (red (ptOf x2 (i % (↑(cN x2) : Int)).toNat).fst (ptOf x2 (i % (↑(cN x2) : Int)).toNat).snd.fst (ptOf x2 (i % (↑(cN x2) : Int)).toNat).snd.snd) 256).snd.fst (cmulR x1 0 x7 (red (ptOf x2 (i % (↑(cN x2) : Int)).toNat).fst (ptOf x2 (i % (↑(cN x2) : Int)).toNat).snd.fst (ptOf x2 (i % (↑(cN x2) : Int)).toNat).snd.snd) 256).snd.snd) ∧ goodP x1 0 x3 x4 (red (cX (ixN n)) (cY (ixN n)) Bool.false) ∧ onP x1 0 x3 (red (ptOf x2 (i % (↑(cN x2) : Int)).toNat).fst (ptOf x2 (i % (↑(cN x2) : Int)).toNat).snd.fst (ptOf x2 (i % (↑(cN x2) : Int)).toNat).snd.snd) ∧ mulOK x1 0 x11 (red (ptOf x2 (i % (↑(cN x2) : Int)).toNat).fst (ptOf x2 (i % (↑(cN x2) : Int)).toNat).snd.fst (ptOf x2 (i % (↑(cN x2) : Int)).toNat).snd.snd) ∧ goodP x1 0 x3 x4 (red (cX (ixN n)) (cY (ixN n)) Bool.false) ∧ onP x1 0 x3 (red (ptOf x2 (i % (↑(cN x2) : Int)).toNat).fst (ptOf x2 (i % (↑(cN x2) : Int)).toNat).snd.fst (ptOf x2 (i % (↑(cN x2) : Int)).toNat).snd.snd) ∧ mulOK x1 0 x12 (red (ptOf x2 (i % (↑(cN x2) : Int)).toNat).fst (ptOf x2 (i % (↑(cN x2) : Int)).toNat).snd.fst (ptOf x2 (i % (↑(cN x2) : Int)).toNat).snd.snd) ∧ goodP x1 0 x3 x4 (red (cX (ixN n)) (cY (ixN n)) Bool.false) ∧ onP x1 0 x3 (red (cmulR x1 0 x7 (red (ptOf x2 (i % (↑(cN x2) : Int)).toNat).fst (ptOf x2 (i % (↑(cN x2) : Int)).toNat).snd.fst (ptOf x2 (i % (↑(cN x2) : Int)).toNat).snd.snd) 256).fst (cmulR x1 0 x7 (red (ptOf x2 (i % (↑(cN x2) : Int)).toNat).fst (ptOf x2 (i % (↑(cN x2) : Int)).toNat).snd.fst (ptOf x2 (i % (↑(cN x2) : Int)).toNat).snd.snd) 256).snd.fst (cmulR x1 0 x7 (red (ptOf x2 (i % (↑(cN x2) : Int)).toNat).fst (ptOf x2 (i % (↑(cN x2) : Int)).toNat).snd.fst (ptOf x2 (i % (↑(cN x2) : Int)).toNat).snd.snd) 256).snd.snd) ∧ mulOK x1 0 x10 (red (cmulR x1 0 x7 (red (ptOf x2 (i % (↑(cN x2) : Int)).toNat).fst (ptOf x2 (i % (↑(cN x2) : Int)).toNat).snd.fst (ptOf x2 (i % (↑(cN x2) : Int)).toNat).snd.snd) 256).fst (cmulR x1 0 x7 (red (ptOf x2 (i % (↑(cN x2) : Int)).toNat).fst (ptOf x2 (i % (↑(cN x2) : Int)).toNat).snd.fst (ptOf x2 (i % (↑(cN x2) : Int)).toNat).snd.snd) 256).snd.fst (cmulR x1 0 x7 (red (ptOf x2 (i % (↑(cN x2) : Int)).toNat).fst (ptOf x2 (i % (↑(cN x2) : Int)).toNat).snd.fst (ptOf x2 (i % (↑(cN x2) : Int)).toNat).snd.snd) 256).snd.snd) ∧ (Bool.true = Bool.true → Bool.true = Bool.true) ∧ (Bool.true = Bool.true → Bool.true = Bool.true) ∧ (x14 = Bool.true → x14 = Bool.true) ∧ (x14 = Bool.true → x14 = Bool.true) ∧ (x15 = Bool.true → x15 = Bool.true) ∧ (x15 = Bool.true → x15 = Bool.true) ∧ (x16 = Bool.true → x16 = Bool.true) ∧ (x16 = Bool.true → x16 = Bool.true) ∧ (x17 = Bool.true → x17 = Bool.true) ∧ (x17 = Bool.true → x17 = Bool.true) ∧ (x18 = Bool.true → x18 = Bool.true) ∧ (x18 = Bool.true → x18 = Bool.true) ∧ (x19 = Bool.true → x19 = Bool.true) ∧ (x19 = Bool.true → x19 = Bool.true) ∧ (x19 = Bool.true → x19 = Bool.true) ∧ (x20 = Bool.true → x20 = Bool.true) ∧ (x20 = Bool.true → x20 = Bool.true) ∧ (x20 = Bool.true → x20 = Bool.true) ∧ (x20 && conj [(cmulR x1 0 x12 (red (ptOf x2 (i % (↑(cN x2) : Int)).toNat).fst (ptOf x2 (i % (↑(cN x2) : Int)).toNat).snd.fst (ptOf x2 (i % (↑(cN x2) : Int)).toNat).snd.snd) 256).fst % M256 == (cmulR x1 0 x10 (red (cmulR x1 0 x7 (red (ptOf x2 (i % (↑(cN x2) : Int)).toNat).fst (ptOf x2 (i % (↑(cN x2) : Int)).toNat).snd.fst (ptOf x2 (i % (↑(cN x2) : Int)).toNat).snd.snd) 256).fst (cmulR x1 0 x7 (red (ptOf x2 (i % (↑(cN x2) : Int)).toNat).fst (ptOf x2 (i % (↑(cN x2) : Int)).toNat).snd.fst (ptOf x2 (i % (↑(cN x2) : Int)).toNat).snd.snd) 256).snd.fst (cmulR x1 0 x7 (red (ptOf x2 (i % (↑(cN x2) : Int)).toNat).fst (ptOf x2 (i % (↑(cN x2) : Int)).toNat).snd.fst (ptOf x2 (i % (↑(cN x2) : Int)).toNat).snd.snd) 256).snd.snd) 256).fst % M256, (cmulR x1 0 x12 (red (ptOf x2 (i % (↑(cN x2) : Int)).toNat).fst (ptOf x2 (i % (↑(cN x2) : Int)).toNat).snd.fst (ptOf x2 (i % (↑(cN x2) : Int)).toNat).snd.snd) 256).snd.fst % M256 == (cmulR x1 0 x10 (red (cmulR x1 0 x7 (red (ptOf x2 (i % (↑(cN x2) : Int)).toNat).fst (ptOf x2 (i % (↑(cN x2) : Int)).toNat).snd.fst (ptOf x2 (i % (↑(cN x2) : Int)).toNat).snd.snd) 256).fst (cmulR x1 0 x7 (red (ptOf x2 (i % (↑(cN x2) : Int)).toNat).fst (ptOf x2 (i % (↑(cN x2) : Int)).toNat).snd.fst (ptOf x2 (i % (↑(cN x2) : Int)).toNat).snd.snd) 256).snd.fst (cmulR x1 0 x7 (red (ptOf x2 (i % (↑(cN x2) : Int)).toNat).fst (ptOf x2 (i % (↑(cN x2) : Int)).toNat).snd.fst (ptOf x2 (i % (↑(cN x2) : Int)).toNat).snd.snd) 256).snd.snd) 256).snd.fst % M256, (cmulR x1 0 x12 (red (ptOf x2 (i % (↑(cN x2) : Int)).toNat).fst (ptOf x2 (i % (↑(cN x2) : Int)).toNat).snd.fst (ptOf x2 (i % (↑(cN x2) : Int)).toNat).snd.snd) 256).snd.snd == (cmulR x1 0 x10 (red (cmulR x1 0 x7 (red (ptOf x2 (i % (↑(cN x2) : Int)).toNat).fst (ptOf x2 (i % (↑(cN x2) : Int)).toNat).snd.fst (ptOf x2 (i % (↑(cN x2) : Int)).toNat).snd.snd) 256).fst (cmulR x1 0 x7 (red (ptOf x2 (i % (↑(cN x2) : Int)).toNat).fst (ptOf x2 (i % (↑(cN x2) : Int)).toNat).snd.fst (ptOf x2 (i % (↑(cN x2) : Int)).toNat).snd.snd) 256).snd.fst (cmulR x1 0 x7 (red (ptOf x2 (i % (↑(cN x2) : Int)).toNat).fst (ptOf x2 (i % (↑(cN x2) : Int)).toNat).snd.fst (ptOf x2 (i % (↑(cN x2) : Int)).toNat).snd.snd) 256).snd.snd) 256).snd.snd]) = Bool.true) := by kernel_rfl
theorem vc_CurveOrder (n i k : Int) :
    Owes Try.prog cxCO [] 100 Try.f6 [sI .i64 n, sI .i64 i, sI .i64 k] yes =
    (let x1 : Int := Go.IntKind.i64.wrap (Go.IntKind.i64.wrap (limb (cN (ixN n)) 0) - (1 : Int)); let x2 : Nat := cP (ixN n) % M256; let x3 : Nat := ixP x2; let x4 : Int := Go.IntKind.i64.wrap ((1 : Int) + i % x1); let x5 : Nat := cB (ixN n) % M256; let x6 : Nat := cN (ixN n) % M256; let x7 : Int := (↑(cN x3) : Int); let x8 : Nat := (1 + (k % (x7 - (1 : Int))).toNat) % M256; let x9 : Bool := (0 : Int) == (0 : Int); let x10 : Bool := Bool.true && x9; let x11 : Bool := x10 && x9; let x12 : Bool := x11 && conj [(cmulR x2 0 x6 (red (ptOf x3 (x4 % x7).toNat).fst (ptOf x3 (x4 % x7).toNat).snd.fst (ptOf x3 (x4 % x7).toNat).snd.snd) 256).fst % M256 == 0, (cmulR x2 0 x6 (red (ptOf x3 (x4 % x7).toNat).fst (ptOf x3 (x4 % x7).toNat).snd.fst (ptOf x3 (x4 % x7).toNat).snd.snd) 256).snd.fst % M256 == 0, (cmulR x2 0 x6 (red (ptOf x3 (x4 % x7).toNat).fst (ptOf x3 (x4 % x7).toNat).snd.fst (ptOf x3 (x4 % x7).toNat).snd.snd) 256).snd.snd == Bool.true]; ((-9223372036854775808 : Int) ≤ n ∧ n ≤ (9223372036854775807 : Int)) ∧ ((-9223372036854775808 : Int) ≤ i ∧ i ≤ (9223372036854775807 : Int)) ∧ ((0 : Int) < x1 ∧ x1 ≤ (1048576 : Int)) ∧ isCv x3 (cP (ixN n)) 0 (cB (ixN n)) (cN (ixN n)) (cX (ixN n)) (cY (ixN n)) Bool.false ∧ ((-9223372036854775808 : Int) ≤ x4 ∧ x4 ≤ (9223372036854775807 : Int)) ∧ goodP x2 0 x5 x6 (red (cX (ixN n)) (cY (ixN n)) Bool.false) ∧ onP x2 0 x5 (red (ptOf x3 (x4 % x7).toNat).fst (ptOf x3 (x4 % x7).toNat).snd.fst (ptOf x3 (x4 % x7).toNat).snd.snd) ∧ mulOK x2 0 x6 (red (ptOf x3 (x4 % x7).toNat).fst (ptOf x3 (x4 % x7).toNat).snd.fst (ptOf x3 (x4 % x7).toNat).snd.snd) ∧ isCv x3 (cP (ixN n)) 0 (cB (ixN n)) (cN (ixN n)) (cX (ixN n)) (cY (ixN n)) Bool.false ∧ ((-9223372036854775808 : Int) ≤ k ∧ k ≤ (9223372036854775807 : Int)) ∧ goodP x2 0 x5 x6 (red (cX (ixN n)) (cY (ixN n)) Bool.false) ∧ onP x2 0 x5 (red (ptOf x3 (x4 % x7).toNat).fst (ptOf x3 (x4 % x7).toNat).snd.fst (ptOf x3 (x4 % x7).toNat).snd.snd) ∧ mulOK x2 0 x8 (red (ptOf x3 (x4 % x7).toNat).fst (ptOf x3 (x4 % x7).toNat).snd.fst (ptOf x3 (x4 % x7).toNat).snd.snd) ∧ (Bool.true = Bool.true → Bool.true = Bool.true) ∧ (Bool.true = Bool.true → Bool.true = Bool.true) ∧ (x10 = Bool.true → x10 = Bool.true) ∧ (x10 = Bool.true → x10 = Bool.true) ∧ (x11 = Bool.true → x11 = Bool.true) ∧ (x11 = Bool.true → x11 = Bool.true) ∧ (x11 = Bool.true → x11 = Bool.true) ∧ (x12 = Bool.true → x12 = Bool.true) ∧ (x12 = Bool.true → x12 = Bool.true) ∧ (x12 = Bool.true → x12 = Bool.true) ∧ (x12 && !(cmulR x2 0 x8 (red (ptOf x3 (x4 % x7).toNat).fst (ptOf x3 (x4 % x7).toNat).snd.fst (ptOf x3 (x4 % x7).toNat).snd.snd) 256).snd.snd) = Bool.true) := by kernel_rfl
theorem vc_LiftBack (n i : Int) :
    Owes Try.prog cxLB [] 100 Try.f7 [sI .i64 n, sI .i64 i] yes =
    (let x1 : Int := Go.IntKind.i64.wrap (Go.IntKind.i64.wrap (limb (cN (ixN n)) 0) - (1 : Int)); let x2 : Nat := cP (ixN n) % M256; let x3 : Nat := ixP x2; let x4 : Int := Go.IntKind.i64.wrap ((1 : Int) + i % x1); let x5 : Nat := cB (ixN n) % M256; let x6 : Nat := (ptOf x3 (x4 % (↑(cN x3) : Int)).toNat).fst % M256; let x7 : Nat := (ptOf x3 (x4 % (↑(cN x3) : Int)).toNat).snd.fst; let x8 : Bool := (limb x7 0).tmod (2 : Int) == (1 : Int); let x9 : Bool := Bool.true && (if x2 ≤ x6 then (6 : Int) else (0 : Int)) == (0 : Int); let x10 : Bool := x9 && (if x2 ≤ x2 then (6 : Int) else (0 : Int)) == (6 : Int); ((-9223372036854775808 : Int) ≤ n ∧ n ≤ (9223372036854775807 : Int)) ∧ ((-9223372036854775808 : Int) ≤ i ∧ i ≤ (9223372036854775807 : Int)) ∧ ((0 : Int) < x1 ∧ x1 ≤ (1048576 : Int)) ∧ isCv x3 (cP (ixN n)) 0 (cB (ixN n)) (cN (ixN n)) (cX (ixN n)) (cY (ixN n)) Bool.false ∧ ((-9223372036854775808 : Int) ≤ x4 ∧ x4 ≤ (9223372036854775807 : Int)) ∧ goodP x2 0 x5 (cN (ixN n) % M256) (red (cX (ixN n)) (cY (ixN n)) Bool.false) ∧ (x6 < x2 → liftOK x2 0 x5 x6 x8) ∧ goodP x2 0 x5 (cN (ixN n) % M256) (red (cX (ixN n)) (cY (ixN n)) Bool.false) ∧ (x2 < x2 → liftOK x2 0 x5 x2 Bool.false) ∧ (Bool.true = Bool.true → Bool.true = Bool.true) ∧ (Bool.true = Bool.true → Bool.true = Bool.true) ∧ (x9 = Bool.true → x9 = Bool.true) ∧ (x9 = Bool.true → x9 = Bool.true) ∧ (x10 = Bool.true → x10 = Bool.true) ∧ (x10 = Bool.true → x10 = Bool.true) ∧ (x10 = Bool.true → x10 = Bool.true) ∧ (x10 && conj [x6 == (if x2 ≤ x6 then 0 else x6) % M256, x7 % M256 == (if x2 ≤ x6 then 0 else liftY x2 0 x5 x6 x8) % M256, (ptOf x3 (x4 % (↑(cN x3) : Int)).toNat).snd.snd == Bool.false]) = Bool.true) := by kernel_rfl
end Go.Proofs.Ytohnkglcabfpjaa
end

section
namespace Go.Proofs.Ytohnkglcabfpjaa
open Go.Sx
theorem pair_dvd {p x1 y1 : Nat} {q r : Nat × Nat} (h : pairOK p x1 y1 q r = true) (hr : r.2 ≠ 0) (h1 : x1 ≤ p) (h2 : y1 ≤ p) (h3 : r.1 ≤ p) :
    x1 ≠ q.1 ∧ (p : Int) ∣ ((r.1 : Int) + x1 + q.1) * (((q.1 : Int) - x1) * ((q.1 : Int) - x1)) - ((q.2 : Int) - y1) * ((q.2 : Int) - y1) ∧ (p : Int) ∣ ((r.2 : Int) + y1) * ((q.1 : Int) - x1) - ((q.2 : Int) - y1) * ((x1 : Int) - r.1) := by
  obtain ⟨x2, y2⟩ := q
  obtain ⟨x3, y3⟩ := r
  unfold pairOK at h
  have h3' : x3 ≤ p := h3
  have e : Nat.beq y3 0 = false := by
    rcases Bool.eq_false_or_eq_true (Nat.beq y3 0) with e | e
    · exact absurd (Nat.eq_of_beq_eq_true e) hr
    · exact e
  simp only [e, Bool.false_or, Bool.and_eq_true, Bool.not_eq_true'] at h
  obtain ⟨g1, g2, g3⟩ := h
  have cd := Cg.sub (Cg.self p x2) (Cg.self p x1) h1
  have ce := Cg.sub (Cg.self p y2) (Cg.self p y1) h2
  have cz := Cg.sub (Cg.self p x1) (Cg.self p x3) h3'
  refine ⟨fun h => ?_, ?_, ?_⟩
  · have h : x1 = x2 := h
    rw [h, Nat.beq_refl] at g1
    cases g1
  · exact Cg.of_eq (Nat.eq_of_beq_eq_true g2) (((Cg.self p x3).add (Cg.self p x1)).add (Cg.self p x2) |>.mul (cd.mul cd)) (ce.mul ce)
  · exact Cg.of_eq (Nat.eq_of_beq_eq_true g3) (((Cg.self p y3).add (Cg.self p y1)).mul cd) (ce.mul cz)
theorem through_is {p s x1 y1 x2 y2 x3 y3 : Nat} {f g : Bool} {D E u : Int} (hs : Cg p s (E * u)) (hx1 : x1 < p) (hy1 : y1 < p) (hx2 : x2 < p) (hx3 : x3 < p) (hy3 : y3 < p)
    (hu : (p : Int) ∣ D * u - 1) (h1 : (p : Int) ∣ ((x3 : Int) + x1 + x2) * (D * D) - E * E) (h2 : (p : Int) ∣ ((y3 : Int) + y1) * D - E * ((x1 : Int) - x3)) :
    throughN p s (x1, y1, f) (x2, y2, g) = (x3, y3, false) := by
  have h0 := lt_pos hx1
  have cx : Cg p (((s * s % p + p - x1) % p + p - x2) % p) (x3 : Int) := by
    have c := ((((hs.mul hs).md.sub (Cg.self p x1) (by omega)).md.sub (Cg.self p x2) (by omega)).md)
    refine c.to ?_
    have := line_x h1 hu
    rw [show E * u * (E * u) - (x1 : Int) - (x2 : Int) - (x3 : Int) = E * u * (E * u) - ((x3 : Int) + x1 + x2) by omega]
    exact this
  have ex : ((s * s % p + p - x1) % p + p - x2) % p = x3 := cx.eq (Cg.self p x3) (Nat.mod_lt _ h0) hx3
  unfold throughN
  dsimp only
  rw [ex]
  have cy : Cg p ((s * ((x1 + p - x3) % p) % p + p - y1) % p) (y3 : Int) := by
    have c := ((hs.mul ((Cg.self p x1).sub (Cg.self p x3) (by omega)).md).md.sub (Cg.self p y1) (by omega)).md
    refine c.to ?_
    have := line_y h2 hu
    rw [show E * u * ((x1 : Int) - x3) - (y1 : Int) - (y3 : Int) = E * u * ((x1 : Int) - x3) - ((y3 : Int) + y1) by omega]
    exact this
  have ey : (s * ((x1 + p - x3) % p) % p + p - y1) % p = y3 := cy.eq (Cg.self p y3) (Nat.mod_lt _ h0) hy3
  rw [ey]
theorem diff_ne {p x1 x2 : Nat} (h1 : x1 < p) (h2 : x2 < p) (h : x1 ≠ x2) : 1 ≤ (x2 + p - x1) % p ∧ (x2 + p - x1) % p < p := by
  have hlt := Nat.mod_lt (x2 + p - x1) (lt_pos h1)
  refine ⟨?_, hlt⟩
  rcases Nat.eq_zero_or_pos ((x2 + p - x1) % p) with e | e
  · obtain ⟨k, hk⟩ := Nat.dvd_of_mod_eq_zero e
    have : k = 1 := by
      rcases Nat.lt_or_ge k 1 with g | g
      · have : k = 0 := by omega
        subst this; omega
      · rcases Nat.lt_or_ge 1 k with g' | g'
        · have := Nat.mul_le_mul_left p g'
          omega
        · omega
    subst this
    omega
  · exact e
theorem csum_pt {i a b : Nat} (hi : i < 8) (ha : a < cN i) (hb : b < cN i) : sumOK (cP i) 0 (ptOf i a) (ptOf i b) ∧ csum (cP i) 0 (ptOf i a) (ptOf i b) = ptOf i ((a + b) % cN i) := by
  obtain ⟨r1, r2⟩ := cP_range hi
  have inp : ∀ j, j < cN i → inP (cP i) (ptOf i j) := by
    intro j hj
    refine ⟨fun h => ?_⟩
    rcases Nat.eq_zero_or_pos j with e | e
    · subst e; cases h
    · rw [pt_pos i e]
      have F := one_of hi e hj
      exact ⟨F.lx, F.ly⟩
  have odd : cN i % 2 = 1 := by
    have : ∀ i : Fin 8, cN i.val % 2 = 1 := by decide
    exact this ⟨i, hi⟩
  have ia := inp a ha
  have ib := inp b hb
  rcases Nat.eq_zero_or_pos a with e | ea
  · subst e
    refine ⟨⟨by omega, ia, ib, fun h => by cases h⟩, ?_⟩
    rw [Nat.zero_add, Nat.mod_eq_of_lt hb]
    rfl
  rcases Nat.eq_zero_or_pos b with e | eb
  · subst e
    refine ⟨⟨by omega, ia, ib, fun _ h => by cases h⟩, ?_⟩
    rw [Nat.add_zero, Nat.mod_eq_of_lt ha, pt_pos i ea]
    rfl
  have Fa := one_of hi ea ha
  have Fb := one_of hi eb hb
  by_cases hab : a + b = cN i
  · have eb' : cN i - a = b := by omega
    have nx := Fa.nx
    have ny := Fa.ny
    rw [eb'] at nx ny
    have hlt := Fa.ly
    have hc : (ptOf i a).1 = (ptOf i b).1 ∧ ((ptOf i a).2.1 + (ptOf i b).2.1) % cP i = 0 := by
      rw [pt_pos i ea, pt_pos i eb]
      refine ⟨nx.symm, ?_⟩
      show (((tabOf i).getD a (0, 0)).2 + ((tabOf i).getD b (0, 0)).2) % cP i = 0
      rw [ny, Nat.add_sub_cancel' (Nat.le_of_lt hlt), Nat.mod_self]
    refine ⟨⟨by omega, ia, ib, fun _ _ h => absurd hc h⟩, ?_⟩
    rw [hab, Nat.mod_self, pt_zero]
    unfold csum
    rw [if_neg (by rw [pt_pos i ea]; exact Bool.false_ne_true), if_neg (by rw [pt_pos i eb]; exact Bool.false_ne_true), if_pos hc]
  have hc0 : 1 ≤ (a + b) % cN i := by
    rcases Nat.lt_or_ge (a + b) (cN i) with g | g
    · rw [Nat.mod_eq_of_lt g]; omega
    · rw [← Nat.sub_add_cancel g, Nat.add_mod_right, Nat.mod_eq_of_lt (by omega)]
      omega
  have hcN : (a + b) % cN i < cN i := Nat.mod_lt _ (by omega)
  have Fc := one_of hi hc0 hcN
  have rel : a ≠ b → ((tabOf i).getD a (0, 0)).1 ≠ ((tabOf i).getD b (0, 0)).1 ∧ ((cP i : Nat) : Int) ∣ ((((tabOf i).getD ((a + b) % cN i) (0, 0)).1 : Int) + (((tabOf i).getD a (0, 0)).1 : Int) + (((tabOf i).getD b (0, 0)).1 : Int)) * (((((tabOf i).getD b (0, 0)).1 : Int) - (((tabOf i).getD a (0, 0)).1 : Int)) * ((((tabOf i).getD b (0, 0)).1 : Int) - (((tabOf i).getD a (0, 0)).1 : Int))) - ((((tabOf i).getD b (0, 0)).2 : Int) - (((tabOf i).getD a (0, 0)).2 : Int)) * ((((tabOf i).getD b (0, 0)).2 : Int) - (((tabOf i).getD a (0, 0)).2 : Int)) ∧
      ((cP i : Nat) : Int) ∣ ((((tabOf i).getD ((a + b) % cN i) (0, 0)).2 : Int) + (((tabOf i).getD a (0, 0)).2 : Int)) * ((((tabOf i).getD b (0, 0)).1 : Int) - (((tabOf i).getD a (0, 0)).1 : Int)) - ((((tabOf i).getD b (0, 0)).2 : Int) - (((tabOf i).getD a (0, 0)).2 : Int)) * ((((tabOf i).getD a (0, 0)).1 : Int) - (((tabOf i).getD ((a + b) % cN i) (0, 0)).1 : Int)) := by
    intro hne
    rcases Nat.lt_or_ge a b with g | g
    · exact pair_dvd (pair_of hi ea g hb) (by have := Fc.y0; omega) (Nat.le_of_lt Fa.lx) (Nat.le_of_lt Fa.ly) (Nat.le_of_lt Fc.lx)
    · have h := pair_of hi eb (show b < a by omega) ha
      rw [Nat.add_comm b a] at h
      obtain ⟨k1, k2, k3⟩ := pair_dvd h (by have := Fc.y0; omega) (Nat.le_of_lt Fb.lx) (Nat.le_of_lt Fb.ly) (Nat.le_of_lt Fc.lx)
      refine ⟨fun h => k1 h.symm, ?_, ?_⟩
      · obtain ⟨z, hz⟩ := k2
        exact ⟨z, by rw [← hz]; grind⟩
      · obtain ⟨z, hz⟩ := k3
        exact ⟨-z, by rw [Int.mul_neg, ← hz]; grind⟩
  have g1 : ∀ A, 1 ≤ A → A < cP i → Nat.gcd A (cP i) = 1 := fun A h1 h2 => (pp_fact hi h1 h2).2.2
  have pa := pt_pos i ea
  have pb := pt_pos i eb
  have pc := pt_pos i hc0
  have dxa := Fa.dx
  have dya := Fa.dy
  by_cases hne : a = b
  · subst hne
    rw [← Nat.two_mul] at pc Fc ⊢
    rw [pa, pc]
    have hd : Nat.gcd ((((tabOf i).getD a (0, 0)).2 + ((tabOf i).getD a (0, 0)).2) % cP i) (cP i) = 1 := g1 _ (by have := Fa.d0; omega) (Nat.mod_lt _ (by omega))
    have lx := Fa.lx
    have ly := Fa.ly
    have zx := Fc.lx
    have zy := Fc.ly
    have d0 := Fa.d0
    rw [pa] at ia
    generalize (tabOf i).getD (2 * a % cN i) (0, 0) = t at *
    generalize (tabOf i).getD a (0, 0) = q at *
    obtain ⟨x, y⟩ := q
    obtain ⟨z, w⟩ := t
    have hn : ¬ (x = x ∧ (y + y) % cP i = 0) := fun h => d0 h.2
    refine ⟨⟨by omega, ia, ia, fun _ _ _ => ⟨fun _ => hd, fun h => absurd rfl h⟩⟩, ?_⟩
    have e : csum (cP i) 0 (x, y, false) (x, y, false) = throughN (cP i) (slopeN (cP i) 0 (x, y, false) (x, y, false)) (x, y, false) (x, y, false) := by
      unfold csum
      rw [if_neg Bool.false_ne_true, if_neg Bool.false_ne_true, if_neg hn]
    have cy2 := (Cg.self (cP i) y).add (Cg.self (cP i) y)
    have cxx := ((Cg.self (cP i) x).mul (Cg.self (cP i) x)).md
    have c3 : Cg (cP i) (tw3 (cP i) (x * x % cP i)) ((x : Int) * x + ((x : Int) * x + (x : Int) * x)) := (cxx.add (cxx.add cxx).md).md
    have hu := inv_cg (Nat.mod_lt _ (by omega)) hd cy2.md
    have cs : Cg (cP i) (slopeN (cP i) 0 (x, y, false) (x, y, false)) (((x : Int) * x + ((x : Int) * x + (x : Int) * x)) * ((invN ((y + y) % cP i) (cP i) : Nat) : Int)) := by
      unfold slopeN
      rw [if_pos rfl]
      exact ((c3.add (Cg.self (cP i) 0)).md.mul (Cg.self _ _)).md.to ⟨0, by simp⟩
    have c33 : Cg (cP i) (3 * x * x) ((x : Int) * x + ((x : Int) * x + (x : Int) * x)) := ⟨⟨0, by rw [Int.natCast_mul, Int.natCast_mul]; grind⟩⟩
    have h1 := Cg.of_eq dxa ((((Cg.self (cP i) z).add (Cg.self (cP i) x)).add (Cg.self (cP i) x)).mul (cy2.mul cy2)) (c33.mul c33)
    have h2 := Cg.of_eq dya (((Cg.self (cP i) w).add (Cg.self (cP i) y)).mul cy2) (c33.mul ((Cg.self (cP i) x).sub (Cg.self (cP i) z) (Nat.le_of_lt zx)))
    rw [e]
    exact through_is cs lx ly lx zx zy hu h1 h2
  · obtain ⟨k1, k2, k3⟩ := rel hne
    rw [pa, pb, pc]
    obtain ⟨dn1, dn2⟩ := diff_ne Fa.lx Fb.lx k1
    have hd := g1 _ dn1 dn2
    have lx := Fa.lx
    have ly := Fa.ly
    have lx2 := Fb.lx
    have zx := Fc.lx
    have zy := Fc.ly
    rw [pa] at ia
    rw [pb] at ib
    generalize (tabOf i).getD ((a + b) % cN i) (0, 0) = t at *
    generalize (tabOf i).getD a (0, 0) = q at *
    generalize (tabOf i).getD b (0, 0) = r at *
    obtain ⟨x1, y1⟩ := q
    obtain ⟨x2, y2⟩ := r
    obtain ⟨x3, y3⟩ := t
    have hne' : ¬ ((x1, y1, false) : Pt) = (x2, y2, false) := fun h => k1 (congrArg (·.1) h)
    have hn : ¬ (x1 = x2 ∧ (y1 + y2) % cP i = 0) := fun h => k1 h.1
    refine ⟨⟨by omega, ia, ib, fun _ _ _ => ⟨fun h => absurd h hne', fun _ => hd⟩⟩, ?_⟩
    have e : csum (cP i) 0 (x1, y1, false) (x2, y2, false) = throughN (cP i) (slopeN (cP i) 0 (x1, y1, false) (x2, y2, false)) (x1, y1, false) (x2, y2, false) := by
      unfold csum
      rw [if_neg Bool.false_ne_true, if_neg Bool.false_ne_true, if_neg hn]
    have cD := ((Cg.self (cP i) x2).sub (Cg.self (cP i) x1) (Nat.le_of_lt lx)).md
    have cE := ((Cg.self (cP i) y2).sub (Cg.self (cP i) y1) (Nat.le_of_lt ly)).md
    have hu := inv_cg dn2 hd cD
    have cs : Cg (cP i) (slopeN (cP i) 0 (x1, y1, false) (x2, y2, false)) (((y2 : Int) - y1) * ((invN ((x2 + cP i - x1) % cP i) (cP i) : Nat) : Int)) := by
      unfold slopeN
      rw [if_neg hne']
      exact (cE.mul (Cg.self _ _)).md
    rw [e]
    exact through_is cs lx ly lx2 zx zy hu k2 k3
end Go.Proofs.Ytohnkglcabfpjaa
end

section
namespace Go.Proofs.Ytohnkglcabfpjaa
open Go.Sx
theorem good_all {i : Nat} (hi : i < 8) : goodP (cP i) 0 (cB i) (cN i) (cX i, cY i, false) := by
  match i, hi with
  | 0, _ | 1, _ | 2, _ | 3, _ | 4, _ | 5, _ | 6, _ | 7, _ => exact ⟨by decide, by decide, by decide, by decide, by decide, by decide +kernel, rfl, ⟨fun h => (by cases h), fun _ => by decide +kernel⟩⟩
  | k + 8, h => omega
theorem base_pt {i : Nat} (hi : i < 8) : (cX i, cY i, false) = ptOf i 1 := by
  match i, hi with
  | 0, _ | 1, _ | 2, _ | 3, _ | 4, _ | 5, _ | 6, _ | 7, _ => rfl
  | k + 8, h => omega
theorem cN_range {i : Nat} (h : i < 8) : 31 ≤ cN i ∧ cN i ≤ 643 := by
  have : ∀ i : Fin 8, 31 ≤ cN i.val ∧ cN i.val ≤ 643 := by decide
  exact this ⟨i, h⟩
theorem ixP_of {i : Nat} (hi : i < 8) : ixP (cP i) = i := by
  have : ∀ i : Fin 8, ixP (cP i.val) = i.val := by decide
  exact this ⟨i, hi⟩
theorem onP_pt {i j : Nat} (hi : i < 8) (hj : j < cN i) : onP (cP i) 0 (cB i) (ptOf i j) := by
  rcases Nat.eq_zero_or_pos j with e | e
  · subst e
    exact ⟨fun _ => ⟨rfl, rfl⟩, fun h => by cases h⟩
  · have F := one_of hi e hj
    rw [pt_pos i e]
    exact ⟨fun h => (by cases h), fun _ => ⟨F.lx, F.ly, F.on⟩⟩
theorem inM_pt {i j : Nat} (hi : i < 8) (hj : j < cN i) : inM (ptOf i j) := by
  have hM := M256_eq
  obtain ⟨_, r2⟩ := cP_range hi
  rcases Nat.eq_zero_or_pos j with e | e
  · subst e
    exact ⟨M_pos, M_pos⟩
  · have F := one_of hi e hj
    have h1 := F.lx
    have h2 := F.ly
    rw [pt_pos i e]
    exact ⟨by dsimp only; omega, by dsimp only; omega⟩
theorem cmul_at {i j k : Nat} (hi : i < 8) (hj : j < cN i) (hk : k < M256) : ∀ n, n ≤ 256 → cmulR (cP i) 0 k (ptOf i j) n = ptOf i (k / 2 ^ (256 - n) * j % cN i)
  | 0, _ => by
    rw [show k / 2 ^ (256 - 0) = 0 from Nat.div_eq_of_lt hk, Nat.zero_mul, Nat.zero_mod]
    rfl
  | n + 1, hn => by
    obtain ⟨r1, _⟩ := cN_range hi
    have ih := cmul_at hi hj hk n (by omega)
    obtain ⟨t, ht⟩ : ∃ t, t = 255 - n := ⟨_, rfl⟩
    rw [show 256 - n = t + 1 by omega] at ih
    have hs := half_step k t
    have lt : ∀ v, v % cN i < cN i := fun v => Nat.mod_lt v (by omega)
    have h1 := (csum_pt hi (lt (k / 2 ^ (t + 1) * j)) (lt (k / 2 ^ (t + 1) * j))).2
    have h2 := (csum_pt hi (lt (k / 2 ^ (t + 1) * j % cN i + k / 2 ^ (t + 1) * j % cN i)) hj).2
    rw [cmulR, ih, h1, h2, show 256 - (n + 1) = t by omega, show 255 - n = t by omega]
    have e1 : (k / 2 ^ (t + 1) * j % cN i + k / 2 ^ (t + 1) * j % cN i) % cN i = 2 * (k / 2 ^ (t + 1)) * j % cN i := by
      rw [← Nat.add_mod, ← Nat.two_mul, Nat.mul_assoc]
    by_cases hb : k.testBit t = true
    · rw [if_pos hb, e1, Nat.mod_add_mod, hs, hb, Bool.toNat_true, Nat.add_mul, Nat.one_mul]
    · rw [if_neg hb, e1, hs, Bool.eq_false_iff.2 hb, Bool.toNat_false]
      simp only [Nat.add_zero]
theorem cmul_pt {i j k : Nat} (hi : i < 8) (hj : j < cN i) (hk : k < M256) : mulOK (cP i) 0 k (ptOf i j) ∧ cmulR (cP i) 0 k (ptOf i j) 256 = ptOf i (k * j % cN i) := by
  obtain ⟨r1, _⟩ := cN_range hi
  have lt : ∀ v, v % cN i < cN i := fun v => Nat.mod_lt v (by omega)
  refine ⟨⟨fun n hn => ?_, fun n hn _ => ?_⟩, ?_⟩
  · rw [cmul_at hi hj hk n (by omega)]
    exact (csum_pt hi (lt _) (lt _)).1
  · rw [cmul_at hi hj hk n (by omega), (csum_pt hi (lt _) (lt _)).2]
    exact (csum_pt hi (lt _) hj).1
  · rw [cmul_at hi hj hk 256 (Nat.le_refl _), Nat.sub_self, Nat.pow_zero, Nat.div_one]
theorem isCv.good {i P A B N X Y : Nat} {F : Bool} (h : isCv i P A B N X Y F) : P % M256 = cP i ∧ A % M256 = 0 ∧ B % M256 = cB i ∧ N % M256 = cN i ∧ red X Y F = ptOf i 1 ∧ goodP (P % M256) (A % M256) (B % M256) (N % M256) (red X Y F) := by
  have e : red X Y F = (cX i, cY i, false) := by
    unfold red
    rw [h.x, h.y, h.f]
  refine ⟨h.p, h.a, h.b, h.n, by rw [e, base_pt h.lt], ?_⟩
  rw [h.p, h.a, h.b, h.n, e]
  exact good_all h.lt
theorem limb_low (N : Nat) : limb N 0 = ((N % M256 % 18446744073709551616 : Nat) : Int) := by
  have e : limb N 0 = ((N / 2 ^ (64 * 0) % 2 ^ 64 : Nat) : Int) := rfl
  rw [e, limb_mod N 0 (by decide), Nat.mul_zero, Nat.pow_zero, Nat.div_one]
theorem ok_point : ∀ (ls : List (List At)) (vs : List (Option Addr)), Ok (pointC ls) → Owes Try.prog cxPoint [] 100 Try.f11 (mkArgs [.str pCv, .int .i64] ls vs) (pointG ls) := by
  intro ls vs hc
  unfold pointC at hc
  split at hc
  · rename_i P A B N X Y F n
    have h : Owes Try.prog cxPoint [] 100 Try.f11 [sCv P A B N X Y F, sI .i64 n] (pointG [[.u P, .u A, .u B, .u N, .u X, .u Y, .b F], [.i n]]) := by
      rw [vc_point]
      obtain ⟨hcv, hn, _⟩ := hc
      obtain ⟨eP, eA, eB, eN, eb, hg⟩ := hcv.good
      have hi := hcv.lt
      obtain ⟨r1, r2⟩ := cN_range hi
      have hL := limb_low N
      have hM := M256_eq
      rw [eN] at hL hg
      obtain ⟨i, hix⟩ : ∃ i, ixP (P % M256) = i := ⟨_, rfl⟩
      rw [hix] at eP eB eN eb hg hi r1 r2 hL
      have m1 := Int.emod_nonneg n (show ((cN i : Nat) : Int) ≠ 0 by omega)
      have m2 := Int.emod_lt_of_pos n (show (0 : Int) < ((cN i : Nat) : Int) by omega)
      obtain ⟨a, ha⟩ := Int.eq_ofNat_of_zero_le m1
      have haN : a < cN i := by omega
      rw [eP, eA, eB, eb] at hg
      intro x1 x2 x3 x4 x5 x6 x7
      have E1 : x1 = ((cN i : Nat) : Int) := by
        simp only [x1]
        rw [hL, Nat.mod_eq_of_lt (by omega), IntWalk.i64_in _ (by omega)]
      have E2 : x2 = (a : Int) := by
        simp only [x2]
        rw [E1, ha, wrap_id (by omega)]
      have E6 : x6 = a := by
        simp only [x6]
        rw [join_one (by omega), E2, Int.toNat_natCast]
      have E3 : x3 = cP i := eP
      have E4 : x4 = 0 := eA
      have E5 : x5 = cB i := eB
      have E7 : x7 = i := hix
      clear_value x7 x6 x5 x4 x3 x2 x1
      obtain ⟨k1, k2⟩ := cmul_pt hi (show 1 < cN i by omega) (show a < M256 by omega)
      rw [Nat.mul_one, Nat.mod_eq_of_lt haN] at k2
      rw [E1, E2, E3, E4, E5, E6, E7, eb, k2, ha, Int.toNat_natCast, eN]
      exact ⟨hn, by omega, by omega, by decide, by decide, by decide, hg, onP_pt hi (by omega), k1, rfl, rfl, rfl, trivial⟩
    exact h
  · exact hc.1.elim
theorem ok_Secret : ∀ (ls : List (List At)) (vs : List (Option Addr)), Ok (pointC ls) → Owes Try.prog cxSecret [] 100 Try.f22 (mkArgs [.str pCv, .int .i64] ls vs) (secretG ls) := by
  intro ls vs hc
  unfold pointC at hc
  split at hc
  · rename_i P A B N X Y F n
    have h : Owes Try.prog cxSecret [] 100 Try.f22 [sCv P A B N X Y F, sI .i64 n] (secretG [[.u P, .u A, .u B, .u N, .u X, .u Y, .b F], [.i n]]) := by
      rw [vc_Secret]
      obtain ⟨hcv, hn, _⟩ := hc
      obtain ⟨eP, eA, eB, eN, eb, hg⟩ := hcv.good
      have hi := hcv.lt
      obtain ⟨r1, r2⟩ := cN_range hi
      have hL := limb_low N
      rw [eN] at hL
      generalize ixP (P % M256) = i at *
      have m1 := Int.emod_nonneg n (show ((cN i : Nat) : Int) - 1 ≠ 0 by omega)
      have m2 := Int.emod_lt_of_pos n (show (0 : Int) < ((cN i : Nat) : Int) - 1 by omega)
      obtain ⟨a, ha⟩ := Int.eq_ofNat_of_zero_le m1
      intro x1 x2
      have E1 : x1 = ((cN i : Nat) : Int) - 1 := by
        simp only [x1]
        rw [hL, Nat.mod_eq_of_lt (by omega), IntWalk.i64_in ((cN i : Nat) : Int) (by omega), IntWalk.i64_in _ (by omega)]
      have E2 : x2 = ((1 + a : Nat) : Int) := by
        simp only [x2]
        rw [E1, ha, wrap_id (n := (a : Int)) (by omega), wrap_id (by omega)]
        omega
      clear_value x2 x1
      rw [E1, ha, E2, Int.toNat_natCast]
      refine ⟨hn, by omega, by omega, by decide, by decide, by decide, ?_, trivial⟩
      rw [join_one (by omega), Int.toNat_natCast, small_mod (by omega)]
    exact h
  · exact hc.1.elim
theorem ok_Lift : ∀ (ls : List (List At)) (vs : List (Option Addr)), Ok (liftC ls) → OwesU Try.prog cxLift [] [] 100 Try.f23 (mkArgs [.str pCv, .str [.u], .bit] ls vs) (liftG ls) := by
  intro ls vs hc
  unfold liftC at hc
  split at hc
  · rename_i P A B N X Y F x odd
    have h : OwesU Try.prog cxLift [] [] 100 Try.f23 [sCv P A B N X Y F, sU x, sB odd] (liftG [[.u P, .u A, .u B, .u N, .u X, .u Y, .b F], [.u x], [.b odd]]) := by
      rw [vc_Lift]
      obtain ⟨hg, hl, _⟩ := hc
      have h0 := lt_pos hg.A0
      have mM := md_M h0
      have lt := fun v => Nat.mod_lt v h0
      intro x1 x2 x3 x4 x5 x6 x7 x8 x9 x10 x11 x12
      have hA : x2 < x1 := hg.A0
      have h0 : 0 < x1 := h0
      have hB : x3 < x1 := hg.B0
      have E8 : x8 = rhsN x1 x2 x3 x4 := mM _
      have l8 : x8 < x1 := by rw [E8]; exact lt _
      have E10 : x10 = x9 := mM _
      have l9 : x9 < x1 := lt _
      have E12 : x12 = x11 := mM _
      have l11 : x11 < x1 := lt _
      have E9 : x9 = rhsN x1 x2 x3 x4 ^ (x1 / 4 + 1) % x1 := by simp only [x9]; rw [E8]
      have E11 : x11 = (0 + x1 - x9) % x1 := by simp only [x11]; rw [E10]
      refine ⟨rfl, hg, fun h => ?_, fun h => ?_⟩
      · have hge : x1 ≤ x4 := cmp_ge.1 (of_decide_eq_true h)
        have E5 : x5 = 0 := by simp only [x5]; rw [if_pos hge, Nat.zero_mod]
        have E6 : x6 = 0 := by simp only [x6]; rw [if_pos hge, Nat.zero_mod]
        have E7 : x7 = 6 := by simp only [x7]; rw [if_pos hge]
        rw [E5, E6, E7]
        exact ⟨⟨rfl, rfl, rfl, trivial⟩, rfl⟩
      · have hlt : x4 < x1 := Nat.lt_of_not_le fun c => of_decide_eq_false h (cmp_ge.2 c)
        have hn : ¬ x1 ≤ x4 := by omega
        obtain ⟨o1, o2⟩ := hl hlt
        have o1 : (liftY x1 x2 x3 x4 odd % 2 == 1) = odd := o1
        have o2 : liftY x1 x2 x3 x4 odd * liftY x1 x2 x3 x4 odd % x1 = rhsN x1 x2 x3 x4 := o2
        have E5 : x5 = x4 := by simp only [x5]; rw [if_neg hn]; exact mod_M hlt
        have E7 : x7 = 0 := by simp only [x7]; rw [if_neg hn]
        have E6 : x6 = liftY x1 x2 x3 x4 odd := by
          simp only [x6]
          rw [if_neg hn]
          refine mod_M (m := P) ?_
          show liftY x1 x2 x3 x4 odd < x1
          unfold liftY
          split <;> exact lt _
        have m4 : x % M256 = x4 := rfl
        have near : ∀ v, v < x1 → v * v % x1 = rhsN x1 x2 x3 x4 → onP x1 x2 x3 (red x v false) := by
          intro v hv he
          have e : red x v false = (x4, v, false) := by
            unfold red
            rw [m4, mod_M hv]
          rw [e]
          exact ⟨fun h => (by cases h), fun _ => ⟨hlt, hv, he⟩⟩
        have yes : ((x9 % 2 == 1) == odd) = true → liftY x1 x2 x3 x4 odd = x9 := by
          intro hb
          unfold liftY
          rw [← E9, if_neg]
          rw [beq_iff_eq] at hb
          rw [hb]
          simp
        have no : ((x9 % 2 == 1) == odd) = false → liftY x1 x2 x3 x4 odd = x11 := by
          intro hb
          unfold liftY
          rw [← E9, if_pos, E11]
          rw [bne, hb]
          rfl
        clear_value x12 x11 x10 x9 x8 x7 x6 x5 x4 x3 x2 x1
        rw [E10, E12, E5, E6, E7]
        refine ⟨hA, hB, hlt, l8, fun hb => ⟨h0, l9, fun hb2 => ?_, fun hb2 => ?_⟩, fun hb => ⟨fun hb2 => ?_, fun hb2 => ?_⟩⟩
        · have e := no (by simpa using hb)
          rw [e] at o1
          rw [o1] at hb2
          simp at hb2
        · have e := no (by simpa using hb)
          rw [e] at o2 ⊢
          exact ⟨hA, hB, near _ l11 o2, ⟨rfl, rfl, rfl, trivial⟩, rfl⟩
        · rw [hb] at hb2; cases hb2
        · have e := yes (by simpa using hb)
          rw [e] at o2 ⊢
          exact ⟨hA, hB, near _ l9 o2, ⟨rfl, rfl, rfl, trivial⟩, rfl⟩
    exact h
  · exact hc.1.elim
theorem card_point : FnOK Try.prog 11 cPoint :=
  FnOK_A (CxOK_cons card_pickBig (CxOK_cons card_cMult CxOK_nil)) (iv := fun _ => []) (N := 100) Try.func11 (by kernel_rfl) (by kernel_rfl) (fun ls => by unfold pointG; split; exact bnd_one (bnd_pt _); exact bnd_none) ok_point
theorem card_Secret : FnOK Try.prog 22 cSecret :=
  FnOK_A (CxOK_cons card_pickBig CxOK_nil) (iv := fun _ => []) (N := 100) Try.func22 (by kernel_rfl) (by kernel_rfl) (fun ls => by unfold secretG; split; exact bnd_one (bnd_U _); exact bnd_none) ok_Secret
theorem card_Lift : FnOK Try.prog 23 cLift :=
  FnOKU_A (CxOK_cons card_be (CxOK_cons card_have (CxOK_cons card_right (CxOK_cons card_root (CxOK_cons card_hsub (CxOK_cons card_isOdd (CxOK_cons card_Cmp (CxOK_wcons wcard_told CxOK_wnil)))))))) (sl := []) (fun p hp => by cases hp) (iv := fun _ => []) (N := 100) Try.func23 (by kernel_rfl) (by kernel_rfl) (fun ls => by
    unfold liftG
    split
    · exact bnd_two (bnd_pt (_, _, _)) (bnd_I _ _)
    · exact bnd_none) ok_Lift
theorem ok_cTells : Owes Try.prog cxCTells [] 100 Try.f13 [] yes := by
  rw [vc_cTells]
  have hr : red 2 12 false = (cX 0, cY 0, false) := by
    unfold red
    rw [small_mod (by decide), small_mod (by decide)]
    rfl
  have hg : goodP 43 0 7 31 (red 2 12 false) := by rw [hr]; exact good_all (i := 0) (by decide)
  have hcv : isCv 0 43 0 7 31 2 12 false := ⟨by decide, small_mod (by decide), small_mod (by decide), small_mod (by decide), small_mod (by decide), small_mod (by decide), small_mod (by decide), rfl⟩
  intro x1 x2 x3 x4
  exact ⟨by decide, hg, fun h => (by cases h), fun _ => (by decide), id, id, id, id, fun _ => hg, fun _ h => (by cases h), fun _ _ => (by decide), id, id, id, fun _ => hcv, fun _ => (by decide), id, id, id, id, fun _ => hcv, fun _ => (by decide), id, id, id, id, rfl⟩
theorem card_cTells : FnOK Try.prog 13 (spec0 yes) :=
  FnOK_0 (CxOK_cons card_Curve (CxOK_cons card_cOn (CxOK_cons card_point CxOK_nil))) (iv := []) (N := 100) Try.func13 (by kernel_rfl) (by kernel_rfl) (bnd_one (bnd_B _)) ok_cTells
end Go.Proofs.Ytohnkglcabfpjaa
end

section
namespace Go.Proofs.Ytohnkglcabfpjaa
open Go.Sx
theorem cx_facts {I : Nat} (hi : I < 8) : cP I % M256 = cP I ∧ cB I % M256 = cB I ∧ cN I % M256 = cN I ∧ red (cX I) (cY I) false = ptOf I 1 ∧ ixP (cP I) = I ∧ isCv I (cP I) 0 (cB I) (cN I) (cX I) (cY I) false ∧ goodP (cP I) 0 (cB I) (cN I) (ptOf I 1) := by
  obtain ⟨r1, r2⟩ := cP_range hi
  obtain ⟨n1, n2⟩ := cN_range hi
  have hg := good_all hi
  have hB := hg.B0
  have hxy : cX I < 1000 ∧ cY I < 1000 := by
    have : ∀ i : Fin 8, cX i.val < 1000 ∧ cY i.val < 1000 := by decide
    exact this ⟨I, hi⟩
  have mP := small_mod (v := cP I) (by omega)
  have mB := small_mod (v := cB I) (by omega)
  have mN := small_mod (v := cN I) (by omega)
  have mX := small_mod (v := cX I) (by omega)
  have mY := small_mod (v := cY I) (by omega)
  have e : red (cX I) (cY I) false = ptOf I 1 := by
    unfold red
    rw [mX, mY, base_pt hi]
  refine ⟨mP, mB, mN, e, ixP_of hi, ⟨hi, mP, Nat.zero_mod _, mB, mN, mX, mY, rfl⟩, ?_⟩
  rw [base_pt hi] at hg
  exact hg
theorem red_pt {I a : Nat} (hi : I < 8) (ha : a < cN I) : red (ptOf I a).1 (ptOf I a).2.1 (ptOf I a).2.2 = ptOf I a := red_same (inM_pt hi ha)
theorem rest_nat (I : Nat) (hi : I < 8) (i : Int) : (i % ((cN I : Nat) : Int)).toNat < cN I := by
  obtain ⟨n1, _⟩ := cN_range hi
  have m1 := Int.emod_nonneg i (show ((cN I : Nat) : Int) ≠ 0 by omega)
  have m2 := Int.emod_lt_of_pos i (show (0 : Int) < ((cN I : Nat) : Int) by omega)
  omega
theorem onE_pt {I a : Nat} (hi : I < 8) (ha : a < cN I) : onE (cP I) 0 (cB I) (ptOf I a) = 0 := by
  have h := onP_pt hi ha
  unfold onE
  split
  · rfl
  · rename_i hf
    have hf : (ptOf I a).2.2 = false := by simpa using hf
    rw [if_pos (h.near hf).2.2]
theorem same_pt (p : Pt) : conj [p.1 % M256 == p.1 % M256, p.2.1 % M256 == p.2.1 % M256, p.2.2 == p.2.2] = true := by
  simp [conj_all]
theorem ok_CurveGroups : ∀ n i j k : Int, i64ok n → i64ok i → i64ok j → i64ok k → Owes Try.prog cxCG [] 100 Try.f3 [sI .i64 n, sI .i64 i, sI .i64 j, sI .i64 k] yes := by
  intro n i j k hn hi' hj hk
  rw [vc_CurveGroups]
  have hI := ixN_lt n
  generalize ixN n = I at *
  obtain ⟨fP, fB, fN, fb, fx, fcv, fg⟩ := cx_facts hI
  have ha := rest_nat I hI i
  have hb := rest_nat I hI j
  have hc := rest_nat I hI k
  generalize hA : (i % ((cN I : Nat) : Int)).toNat = a at *
  generalize hB : (j % ((cN I : Nat) : Int)).toNat = b at *
  generalize hC : (k % ((cN I : Nat) : Int)).toNat = c at *
  have lt : ∀ v, v % cN I < cN I := fun v => Nat.mod_lt v (by omega)
  have ra := red_pt hI ha
  have rb := red_pt hI hb
  have rc := red_pt hI hc
  have rab := red_pt hI (lt (a + b))
  have rbc := red_pt hI (lt (b + c))
  obtain ⟨s1, c1⟩ := csum_pt hI ha hb
  obtain ⟨s2, c2⟩ := csum_pt hI hb hc
  obtain ⟨s3, c3⟩ := csum_pt hI (lt (a + b)) hc
  obtain ⟨s4, c4⟩ := csum_pt hI ha (lt (b + c))
  obtain ⟨s5, c5⟩ := csum_pt hI hb ha
  have e3 : ((a + b) % cN I + c) % cN I = (a + b + c) % cN I := Nat.mod_add_mod _ _ _
  have e4 : (a + (b + c) % cN I) % cN I = (a + b + c) % cN I := by rw [Nat.add_mod_mod, Nat.add_assoc]
  have e5 : (b + a) % cN I = (a + b) % cN I := by rw [Nat.add_comm]
  have oab := onP_pt hI (lt (a + b))
  have nab := onE_pt hI (lt (a + b))
  rw [e3] at c3
  rw [e4] at c4
  rw [e5] at c5
  simp only [fP, fx, fB, fN, fb, hA, hB, hC, ra, rb, rc, c1, c2, rab, rbc, c3, c4, c5, nab, same_pt]
  have oa := onP_pt hI ha
  have ob := onP_pt hI hb
  have oc := onP_pt hI hc
  have obc := onP_pt hI (lt (b + c))
  have mab := inM_pt hI (lt (a + b))
  refine ⟨hn, fcv, hi', fcv, hj, fcv, hk, fg, oa, ob, s1, fg, ob, oc, s2, fg, oab, oc, s3, fg, oa, obc, s4, fg, ob, oa, s5, id, id, id, id, id, id, id, id, id, id, id, id, id, id, id, id, id, id, fun _ => fg, fun _ hf => ?_, fun _ hf => ?_, id, id, rfl⟩
  · obtain ⟨z1, z2⟩ := oab.far hf
    rw [z1, z2]
    exact ⟨Nat.zero_mod _, Nat.zero_mod _⟩
  · obtain ⟨z1, z2, _⟩ := oab.near hf
    rw [Nat.mod_eq_of_lt mab.x, Nat.mod_eq_of_lt mab.y]
    exact ⟨z1, z2⟩
theorem cxok_CG : CxOK Try.prog cxCG := CxOK_cons card_Curve (CxOK_cons card_point (CxOK_cons card_cAdd (CxOK_cons card_cOn (CxOK_cons card_cTells CxOK_nil))))
end Go.Proofs.Ytohnkglcabfpjaa
end

section
namespace Go.Proofs.Ytohnkglcabfpjaa
open Go.Sx
theorem far_conj (I : Nat) : conj [(ptOf I 0).1 % M256 == 0, (ptOf I 0).2.1 % M256 == 0, (ptOf I 0).2.2 == true] = true := by
  rw [pt_zero]
  simp [conj_all]
theorem neg_pt {I a : Nat} (hi : I < 8) (h1 : 1 ≤ a) (ha : a < cN I) : (ptOf I (cN I - a)).1 = (ptOf I a).1 ∧ (ptOf I (cN I - a)).2.1 = cP I - (ptOf I a).2.1 ∧ (ptOf I (cN I - a)).2.2 = false ∧ (ptOf I a).2.2 = false ∧ 0 < (ptOf I a).2.1 ∧ (ptOf I a).2.1 < cP I ∧ (ptOf I a).1 < cP I := by
  have F := one_of hi h1 ha
  rw [pt_pos I h1, pt_pos I (show 1 ≤ cN I - a by omega)]
  exact ⟨F.nx, F.ny, rfl, rfl, F.y0, F.ly, F.lx⟩
theorem wrap_N {I : Nat} (hi : I < 8) : IntKind.u64.wrap (limb (cN I) 0 - 1) = ((cN I - 1 : Nat) : Int) ∧ join ((cN I - 1 : Nat) : Int) 0 0 0 % M256 = cN I - 1 := by
  obtain ⟨n1, n2⟩ := cN_range hi
  have e : IntKind.u64.wrap (limb (cN I) 0 - 1) = ((cN I - 1 : Nat) : Int) := by
    rw [limb_small (by omega), wrap_id (by omega)]
    omega
  refine ⟨e, ?_⟩
  rw [join_one (by omega), Int.toNat_natCast]
theorem ok_CurveBack : ∀ n i : Int, i64ok n → i64ok i → Owes Try.prog cxCB [] 100 Try.f4 [sI .i64 n, sI .i64 i] yes := by
  intro n i hn hi'
  rw [vc_CurveBack]
  have hI := ixN_lt n
  generalize ixN n = I at *
  obtain ⟨fP, fB, fN, fb, fx, fcv, fg⟩ := cx_facts hI
  obtain ⟨n1, n2⟩ := cN_range hI
  obtain ⟨p1, p2⟩ := cP_range hI
  obtain ⟨w1, w2⟩ := wrap_N hI
  have ha := rest_nat I hI i
  generalize hA : (i % ((cN I : Nat) : Int)).toNat = a at *
  have hr : (0 : Int) ≤ ((cN I - 1 : Nat) : Int) ∧ ((cN I - 1 : Nat) : Int) < 18446744073709551616 := by omega
  have ra := red_pt hI ha
  have oa := onP_pt hI ha
  have h0 : 0 < cN I := by omega
  have o0 := onP_pt hI h0
  have r0 : red 0 0 true = ptOf I 0 := by
    unfold red
    rw [Nat.zero_mod, pt_zero]
  obtain ⟨s2, c2⟩ := csum_pt hI ha h0
  rw [Nat.add_zero, Nat.mod_eq_of_lt ha] at c2
  obtain ⟨k1, k2⟩ := cmul_pt hI ha (show cN I - 1 < M256 by have := M256_eq; omega)
  rcases Nat.eq_zero_or_pos a with e | e
  · subst e
    obtain ⟨s1, c1⟩ := csum_pt hI h0 h0
    rw [Nat.add_zero, Nat.zero_mod] at c1
    rw [Nat.mul_zero, Nat.zero_mod] at k2
    have hf : (ptOf I 0).2.2 = true := rfl
    have fc := far_conj I
    simp only [fP, fx, fB, fN, fb, hA, ra, r0, w1, w2, c1, k2, same_pt, fc]
    refine ⟨hn, fcv, hi', fun h => ?_, fun _ => ⟨fg, oa, oa, s1, fg, oa, o0, s2, hr, by decide, by decide, by decide, fg, oa, k1, id, id, id, id, id, id, id, id, id, id, id, id, id, id, id, rfl⟩⟩
    rw [hf] at h
    cases h
  · obtain ⟨g1, g2, g3, g4, g5, g6, g7⟩ := neg_pt hI e ha
    have hb : cN I - a < cN I := by omega
    have ob := onP_pt hI hb
    have mX : (ptOf I a).1 % M256 = (ptOf I a).1 := small_mod (by omega)
    have mY : (ptOf I a).2.1 % M256 = (ptOf I a).2.1 := small_mod (by omega)
    have fe : fE 0 (ptOf I a).2.1 (cP I) = 0 := fE_zero (by rw [fP, Nat.zero_mod]; omega) (by rw [fP, mY]; exact g6)
    have v9 : (if fE 0 (ptOf I a).2.1 (cP I) = 0 then (0 + cP I - (ptOf I a).2.1 % M256) % cP I else 0) = cP I - (ptOf I a).2.1 := by
      rw [if_pos fe, mY, Nat.zero_add, Nat.mod_eq_of_lt (by omega)]
    have rneg : red (ptOf I a).1 (if fE 0 (ptOf I a).2.1 (cP I) = 0 then (0 + cP I - (ptOf I a).2.1 % M256) % cP I else 0) (ptOf I a).2.2 = ptOf I (cN I - a) := by
      rw [v9]
      unfold red
      rw [mX, small_mod (v := cP I - (ptOf I a).2.1) (by omega), g4, ← g1, ← g2, ← g3]
    obtain ⟨s1, c1⟩ := csum_pt hI ha hb
    rw [Nat.add_sub_cancel' (Nat.le_of_lt ha), Nat.mod_self] at c1
    have e2 : (cN I - 1) * a % cN I = cN I - a := by
      have : (cN I - 1) * a = cN I * (a - 1) + (cN I - a) := by
        rw [Nat.sub_mul, Nat.mul_sub, Nat.one_mul, Nat.mul_one]
        have := Nat.mul_le_mul_left (cN I) e
        omega
      rw [this, Nat.mul_add_mod, Nat.mod_eq_of_lt hb]
    rw [e2] at k2
    have fc := far_conj I
    have lc : conj [(ptOf I (cN I - a)).1 % M256 == (ptOf I a).1 % M256, (ptOf I (cN I - a)).2.1 % M256 == (if fE 0 (ptOf I a).2.1 (cP I) = 0 then (0 + cP I - (ptOf I a).2.1 % M256) % cP I else 0) % M256, (ptOf I (cN I - a)).2.2 == (ptOf I a).2.2] = true := by
      rw [v9, g1, g2, g3, g4]
      simp [conj_all]
    simp only [fP, fx, fB, fN, fb, hA, ra, r0, w1, w2, rneg, c1, c2, k2, same_pt, fc, lc]
    refine ⟨hn, fcv, hi', fun _ => ⟨fg, oa, ob, s1, fg, oa, o0, s2, hr, by decide, by decide, by decide, fg, oa, k1, id, id, id, id, id, id, id, id, id, id, id, id, id, id, id, rfl⟩, fun h => ?_⟩
    rw [g4] at h
    cases h
theorem cxok_CB : CxOK Try.prog cxCB := CxOK_cons card_Curve (CxOK_cons card_point (CxOK_cons card_fSub (CxOK_cons card_cAdd (CxOK_cons card_cMult (CxOK_cons card_cTells CxOK_nil)))))
theorem pick_one {I : Nat} (hi : I < 8) (i : Int) : IntKind.i64.wrap (IntKind.i64.wrap (limb (cN I) 0) - 1) = ((cN I : Nat) : Int) - 1 ∧ ∃ a : Nat, 1 ≤ a ∧ a < cN I ∧ IntKind.i64.wrap (1 + i % (((cN I : Nat) : Int) - 1)) = (a : Int) ∧ ((a : Int) % ((cN I : Nat) : Int)).toNat = a ∧ 1 + (i % (((cN I : Nat) : Int) - 1)).toNat = a := by
  obtain ⟨n1, n2⟩ := cN_range hi
  have m1 := Int.emod_nonneg i (show ((cN I : Nat) : Int) - 1 ≠ 0 by omega)
  have m2 := Int.emod_lt_of_pos i (show (0 : Int) < ((cN I : Nat) : Int) - 1 by omega)
  refine ⟨?_, (1 + i % (((cN I : Nat) : Int) - 1)).toNat, by omega, by omega, ?_, ?_, by omega⟩
  · rw [limb_small (by omega), IntWalk.i64_in ((cN I : Nat) : Int) (by omega), IntWalk.i64_in _ (by omega)]
  · rw [IntWalk.i64_in _ (by omega)]
    omega
  · rw [Int.emod_eq_of_lt (by omega) (by omega), Int.toNat_natCast]
theorem ok_CurveOrder : ∀ n i k : Int, i64ok n → i64ok i → i64ok k → Owes Try.prog cxCO [] 100 Try.f6 [sI .i64 n, sI .i64 i, sI .i64 k] yes := by
  intro n i k hn hi' hk
  rw [vc_CurveOrder]
  have hI := ixN_lt n
  generalize ixN n = I at *
  obtain ⟨fP, fB, fN, fb, fx, fcv, fg⟩ := cx_facts hI
  obtain ⟨n1, n2⟩ := cN_range hI
  obtain ⟨q1, a, a1, a2, a3, a4, _⟩ := pick_one hI i
  obtain ⟨_, b, b1, b2, _, _, b5⟩ := pick_one hI k
  have mb : b % M256 = b := small_mod (by omega)
  have ra := red_pt hI a2
  have oa := onP_pt hI a2
  obtain ⟨k1, k2⟩ := cmul_pt hI a2 (show cN I < M256 by have := M256_eq; omega)
  obtain ⟨k3, k4⟩ := cmul_pt hI a2 (show b < M256 by have := M256_eq; omega)
  rw [Nat.mul_mod_right] at k2
  have gc := (one_of hI a1 a2).gc
  have hne : 1 ≤ b * a % cN I := by
    rcases Nat.eq_zero_or_pos (b * a % cN I) with e | e
    · have d : cN I ∣ b * a := Nat.dvd_of_mod_eq_zero e
      have d2 : cN I ∣ b := Nat.Coprime.dvd_of_dvd_mul_right (Nat.Coprime.symm gc) d
      have := Nat.le_of_dvd (by omega) d2
      omega
    · exact e
  have hf : (ptOf I (b * a % cN I)).2.2 = false := by rw [pt_pos I hne]
  have fc := far_conj I
  have h1 : (0 : Int) < ((cN I : Nat) : Int) - 1 ∧ ((cN I : Nat) : Int) - 1 ≤ 1048576 := by omega
  have h2 : (-9223372036854775808 : Int) ≤ (a : Int) ∧ (a : Int) ≤ 9223372036854775807 := by omega
  simp only [fP, fx, fB, fN, fb, q1, a3, a4, b5, mb, ra, k2, k4, fc, hf]
  exact ⟨hn, hi', h1, fcv, h2, fg, oa, k1, fcv, hk, fg, oa, k3, id, id, id, id, id, id, id, id, id, id, rfl⟩
theorem cxok_CO : CxOK Try.prog cxCO := CxOK_cons card_Curve (CxOK_cons card_pickBig (CxOK_cons card_point (CxOK_cons card_Secret (CxOK_cons card_cMult (CxOK_cons card_cTells CxOK_nil)))))
theorem lift_pt {I a : Nat} (hi : I < 8) (h1 : 1 ≤ a) (ha : a < cN I) : liftY (cP I) 0 (cB I) (ptOf I a).1 ((ptOf I a).2.1 % 2 == 1) = (ptOf I a).2.1 := by
  have F := one_of hi h1 ha
  obtain ⟨p1, p2⟩ := cP_range hi
  have h4 := (good_all hi).P4
  rw [pt_pos I h1]
  have rt := F.rt
  have ly := F.ly
  have y0 := F.y0
  generalize (tabOf I).getD a (0, 0) = q at *
  obtain ⟨x, y⟩ := q
  dsimp only at *
  unfold liftY
  rcases rt with e | e
  · rw [e, if_neg (by simp)]
  · rw [e, if_pos]
    · rw [Nat.zero_add, Nat.sub_sub_self (Nat.le_of_lt ly), Nat.mod_eq_of_lt ly]
    · rw [bne_iff_ne]
      intro h
      rw [Bool.eq_iff_iff, beq_iff_eq, beq_iff_eq] at h
      omega
theorem ok_LiftBack : ∀ n i : Int, i64ok n → i64ok i → Owes Try.prog cxLB [] 100 Try.f7 [sI .i64 n, sI .i64 i] yes := by
  intro n i hn hi'
  rw [vc_LiftBack]
  have hI := ixN_lt n
  generalize ixN n = I at *
  obtain ⟨fP, fB, fN, fb, fx, fcv, fg⟩ := cx_facts hI
  obtain ⟨n1, n2⟩ := cN_range hI
  obtain ⟨p1, p2⟩ := cP_range hI
  obtain ⟨q1, a, a1, a2, a3, a4, _⟩ := pick_one hI i
  obtain ⟨_, _, _, g4, g5, g6, g7⟩ := neg_pt hI a1 a2
  have mX : (ptOf I a).1 % M256 = (ptOf I a).1 := small_mod (by omega)
  have mY : (ptOf I a).2.1 % M256 = (ptOf I a).2.1 := small_mod (by omega)
  have par : ((limb (ptOf I a).2.1 0).tmod 2 == (1 : Int)) = ((ptOf I a).2.1 % 2 == 1) := by
    rw [limb_small (by omega), Int.tmod_eq_emod_of_nonneg (Int.natCast_nonneg _), Bool.eq_iff_iff, beq_iff_eq, beq_iff_eq]
    omega
  have ly := lift_pt hI a1 a2
  have on := (onP_pt hI a2).near g4
  have lk : liftOK (cP I) 0 (cB I) (ptOf I a).1 ((ptOf I a).2.1 % 2 == 1) := ⟨by rw [ly], by rw [ly]; exact on.2.2⟩
  have i1 : ¬ cP I ≤ (ptOf I a).1 := by omega
  have h1 : (0 : Int) < ((cN I : Nat) : Int) - 1 ∧ ((cN I : Nat) : Int) - 1 ≤ 1048576 := by omega
  have h2 : (-9223372036854775808 : Int) ≤ (a : Int) ∧ (a : Int) ≤ 9223372036854775807 := by omega
  have hc : conj [(ptOf I a).1 == (ptOf I a).1, (ptOf I a).2.1 == (ptOf I a).2.1, false == false] = true := by simp [conj_all]
  simp only [fP, fx, fB, fN, fb, q1, a3, a4, mX, mY, par, if_neg i1, if_pos (Nat.le_refl (cP I)), ly, g4, hc]
  exact ⟨hn, hi', h1, fcv, h2, fg, fun _ => lk, fg, fun h => absurd h (Nat.lt_irrefl _), id, id, id, id, id, id, id, rfl⟩
theorem cxok_LB : CxOK Try.prog cxLB := CxOK_cons card_Curve (CxOK_cons card_pickBig (CxOK_cons card_point (CxOK_cons card_Lift (CxOK_cons card_cTells CxOK_nil))))
end Go.Proofs.Ytohnkglcabfpjaa
end

section
namespace Go.Proofs.Ytohnkglcabfpjaa
open Go.Sx
theorem both_mod {X y q N : Nat} : (X * q % N + y * q % N) % N = (X % N + y) % N * q % N := by
  rw [← Nat.add_mod, ← Nat.add_mul, Nat.mod_mul_mod, Nat.add_mul, Nat.add_mul, Nat.add_mod, Nat.add_mod (X % N * q), Nat.mod_mul_mod]
theorem twice_mod {x y q N : Nat} : x * (y * q % N) % N = x * y % N * q % N := by
  rw [Nat.mul_mod_mod, Nat.mod_mul_mod, Nat.mul_assoc]
theorem ok_MultAdds : ∀ (n i k a b : Int) (s : ByteArray) (k' a' b' : Int) (s' : ByteArray), i64ok n → i64ok i → i64ok k → i64ok a → i64ok b → i64ok k' → i64ok a' → i64ok b' → Owes Try.prog cxMA [] 100 Try.f5 [sI .i64 n, sI .i64 i, sRaw k a b s, sRaw k' a' b' s'] yes := by
  intro n i k a b s k' a' b' s' hn hi' hk ha hb hk' ha' hb'
  rw [vc_MultAdds]
  have hI := ixN_lt n
  generalize ixN n = I at *
  obtain ⟨fP, fB, fN, fb, fx, fcv, fg⟩ := cx_facts hI
  obtain ⟨n1, n2⟩ := cN_range hI
  have hM := M256_eq
  have hX : rawN k a b % M256 < M256 := Nat.mod_lt _ M_pos
  generalize rawN k a b % M256 = X at *
  generalize rawN k' a' b' % M256 = Y at *
  have hq := rest_nat I hI i
  generalize hQ : (i % ((cN I : Nat) : Int)).toNat = q at *
  have iN : ¬ cN I = 0 := by omega
  have lt : ∀ v, v % cN I < cN I := fun v => Nat.mod_lt v (by omega)
  have sm : ∀ v, v % cN I % M256 = v % cN I := fun v => small_mod (by have := lt v; omega)
  have fe : fE (X % cN I) (Y % cN I) (cN I) = 0 := fE_zero (by rw [fN, sm]; exact lt X) (by rw [fN, sm]; exact lt Y)
  have sM : ∀ v, v % cN I < M256 := fun v => by have := lt v; omega
  have rq := red_pt hI hq
  have oq := onP_pt hI hq
  obtain ⟨k5, c5⟩ := cmul_pt hI hq hX
  obtain ⟨k7, c7⟩ := cmul_pt hI hq (sM Y)
  obtain ⟨k11, c11⟩ := cmul_pt hI hq (sM (X % cN I + Y % cN I))
  obtain ⟨k12, c12⟩ := cmul_pt hI hq (sM (X % cN I * (Y % cN I)))
  obtain ⟨k10, c10⟩ := cmul_pt hI (lt (Y % cN I * q)) (sM X)
  obtain ⟨s1, c1⟩ := csum_pt hI (lt (X * q)) (lt (Y % cN I * q))
  rw [both_mod] at c1
  rw [twice_mod] at c10
  have r5 := red_pt hI (lt (X * q))
  have r7 := red_pt hI (lt (Y % cN I * q))
  have o5 := onP_pt hI (lt (X * q))
  have o7 := onP_pt hI (lt (Y % cN I * q))
  simp only [fP, fx, fB, fN, fb, hQ, if_neg iN, sm, fe, if_pos trivial, rq, c5, c7, c11, c12, r5, r7, c10, c1, same_pt]
  exact ⟨hn, fcv, hi', hk, ha, hb, hk', ha', hb', hk, ha, hb, fg, oq, k5, fg, oq, k7, fg, o5, o7, s1, fg, oq, k11, fg, oq, k12, fg, o7, k10, id, id, id, id, id, id, id, id, id, id, id, id, id, id, id, id, id, id, rfl⟩
theorem cxok_MA : CxOK Try.prog cxMA := CxOK_cons card_Curve (CxOK_cons card_point (CxOK_cons card_number (CxOK_cons card_DivMod (CxOK_cons card_fAdd (CxOK_cons card_fMul (CxOK_cons card_cAdd (CxOK_cons card_cMult (CxOK_cons card_cTells CxOK_nil))))))))
end Go.Proofs.Ytohnkglcabfpjaa
end
