/-
  Texts: V50, P43, P44, P80, P11, V51, V16, P45, P46.
-/
import Derived.Test.YtbfcccoeekonlaaM1
import Derived.Test.YtbfcccoeekonlaaM2
import Derived.Test.YtbfcccoeekonlaaM3
import Derived.Test.YtbfcccoeekonlaaM4
import Derived.Test.YtbfcccoeekonlaaM5
import Derived.Test.YtbfcccoeekonlaaM6
import Derived.Test.YtbfcccoeekonlaaM7
import Derived.Test.YtbfcccoeekonlaaM8
import Derived.Test.YtbfcccoeekonlaaM9
import Derived.Test.YtbfcccoeekonlaaM10
import Derived.Test.YtbfcccoeekonlaaM11
import Derived.Test.YtbfcccoeekonlaaM12
import Derived.Laws.Strings
section
/-
  Package sign: its steps: reckoned by the kernel. (Laid by program.)
-/
namespace Go.Proofs.Ytbfcccoeekonlaa
open Go.Sx
set_option maxRecDepth 100000
abbrev pSg : List PK := [.u, .u, .i]
abbrev sSg (R S : Nat) (o : Int) : SA := .agg [.u R, .u S, .c (.val (.int .i64 o))]
def secB (n d : Nat) : Bool := !(d % M256 == 0) && decide (d % M256 < n % M256)
def secG (n d : Nat) : SV := .one (sB (secB n d))
def restN (n a : Nat) : Nat := if n % M256 = 0 then 0 else a % M256 % (n % M256)
def oRestG (n a : Nat) : SV := .one (sU (restN n a))
def minN (n a : Nat) : Nat := if fE 0 a n = 0 then (0 + n % M256 - a % M256) % (n % M256) else 0
def minG (n a : Nat) : SV := .one (sU (minN n a))
def mulN (n a b : Nat) : Nat := if fE a b n = 0 then a % M256 * (b % M256) % (n % M256) else 0
def oMulG (n a b : Nat) : SV := .one (sU (mulN n a b))
def ofSumC : List (List At) → List Prop
  | [[.u _], [.y 32 g]] => [byteOK 32 g]
  | _ => [False]
def ofSumG : List (List At) → SV
  | [[.u n], [.y 32 g]] => .one (sU (restN n (fromN g 32)))
  | _ => .tup []
def oinvN (n a : Nat) : Nat := if finvE a n = 0 then invN (a % M256) (n % M256) else 0
def oinvE (n a : Nat) : Int := if finvE a n = 0 then 0 else 16
def oinvG (n a : Nat) : SV := .tup [sU (oinvN n a), sI .i64 (oinvE n a)]
def highB (n s : Nat) : Bool := decide (minN n s % M256 < s % M256)
def oHighG (n s : Nat) : SV := .one (sB (highB n s))
def mayB (n R S : Nat) (o : Int) : Bool := secB n R && secB n S && !highB n S && decide (0 ≤ o) && decide (o ≤ 3)
def mayC : List (List At) → List Prop
  | [[.u _], [.u _, .u _, .i _]] => []
  | _ => [False]
def mayG' : List (List At) → SV
  | [[.u n], [.u R, .u S, .i o]] => .one (sB (mayB n R S o))
  | _ => .tup []
def ckC : List (List At) → List Prop
  | [[.u P, .u A, .u B, .u N, .u X, .u Y, .b F]] => [goodP (P % M256) (A % M256) (B % M256) (N % M256) (red X Y F)]
  | _ => [False]
def ckG : List (List At) → SV
  | [[.u _, .u _, .u _, .u _, .u _, .u _, .b _]] => .one (sI .i64 0)
  | _ => .tup []
def lookC : List (List At) → List Prop
  | [[.u P, .u A, .u B, .u N, .u X, .u Y, .b F], [.u _]] => [goodP (P % M256) (A % M256) (B % M256) (N % M256) (red X Y F)]
  | _ => [False]
def lookG : List (List At) → SV
  | [[.u _, .u _, .u _, .u N, .u _, .u _, .b _], [.u d]] => .one (sI .i64 (if secB N d = true then 0 else 6))
  | _ => .tup []
def pntC : List (List At) → List Prop
  | [[.u P, .u A, .u B, .u N, .u X, .u Y, .b F], [.u d]] => [goodP (P % M256) (A % M256) (B % M256) (N % M256) (red X Y F), secB N d = true, mulOK (P % M256) (A % M256) (d % M256) (red X Y F)]
  | _ => [False]
def pntG : List (List At) → SV
  | [[.u P, .u A, .u _, .u _, .u X, .u Y, .b F], [.u d]] => .tup [ptS (cmulR (P % M256) (A % M256) (d % M256) (red X Y F) 256), sI .i64 0]
  | _ => .tup []
structure bothOK (P A B N : Nat) (b : Pt) (k : Nat) (p : Pt) (l : Nat) : Prop where
  g : goodP P A B N b
  p0 : onP P A B p
  m1 : mulOK P A k b
  m2 : mulOK P A l p
  i1 : inM (cmulR P A k b 256) ∧ onP P A B (cmulR P A k b 256)
  i2 : inM (cmulR P A l p 256) ∧ onP P A B (cmulR P A l p 256)
  s : sumOK P A (cmulR P A k b 256) (cmulR P A l p 256)
def bothC : List (List At) → List Prop
  | [[.u P, .u A, .u B, .u N, .u X, .u Y, .b F], [.u k], [.u x, .u y, .b f], [.u l]] => [bothOK (P % M256) (A % M256) (B % M256) (N % M256) (red X Y F) (k % M256) (red x y f) (l % M256)]
  | _ => [False]
def bothP (P A : Nat) (b : Pt) (k : Nat) (p : Pt) (l : Nat) : Pt := csum P A (cmulR P A k b 256) (cmulR P A l p 256)
def bothG : List (List At) → SV
  | [[.u P, .u A, .u _, .u _, .u X, .u Y, .b F], [.u k], [.u x, .u y, .b f], [.u l]] => .tup [ptS (bothP (P % M256) (A % M256) (red X Y F) (k % M256) (red x y f) (l % M256)), sI .i64 0]
  | _ => .tup []
def liftB (m A B x : Nat) (odd : Bool) : Bool := ((liftY m A B x odd % 2 == 1) == odd) && (liftY m A B x odd * liftY m A B x odd % m == rhsN m A B x)
def liftE (m A B x : Nat) (odd : Bool) : Int := if m ≤ x then 6 else if liftB m A B x odd = true then 0 else 16
def lift2C : List (List At) → List Prop
  | [[.u P, .u A, .u B, .u N, .u X, .u Y, .b F], [.u _], [.b _]] => [goodP (P % M256) (A % M256) (B % M256) (N % M256) (red X Y F)]
  | _ => [False]
def lift2G : List (List At) → SV
  | [[.u P, .u A, .u B, .u _, .u _, .u _, .b _], [.u x], [.b odd]] => .tup [.agg [.u (if liftE (P % M256) (A % M256) (B % M256) (x % M256) odd = 0 then x % M256 else 0), .u (if liftE (P % M256) (A % M256) (B % M256) (x % M256) odd = 0 then liftY (P % M256) (A % M256) (B % M256) (x % M256) odd else 0), .c (.val (.bool false))], sI .i64 (liftE (P % M256) (A % M256) (B % M256) (x % M256) odd)]
  | _ => .tup []
def pofX (N R : Nat) (o : Int) : Nat := if 2 ≤ o then R + N else R
def pofO (N R : Nat) (o : Int) : Bool := decide (2 ≤ o) && decide (M256 ≤ R % M256 + N % M256)
def pofE (P A B N R : Nat) (o : Int) : Int := if pofO N R o = true then 10 else if liftE P A B (pofX N R o % M256) (o.tmod 2 == 1) = 0 then 0 else 10
def pofP (P A B N R : Nat) (o : Int) : Pt := (if pofE P A B N R o = 0 then pofX N R o % M256 else 0, if pofE P A B N R o = 0 then liftY P A B (pofX N R o % M256) (o.tmod 2 == 1) else 0, false)
def pofG : List (List At) → SV
  | [[.u P, .u A, .u B, .u N, .u _, .u _, .b _], [.u R, .u _, .i o]] => .tup [ptS (pofP (P % M256) (A % M256) (B % M256) N R o), sI .i64 (pofE (P % M256) (A % M256) (B % M256) N R o)]
  | _ => .tup []
def pofC : List (List At) → List Prop
  | [[.u P, .u A, .u B, .u N, .u X, .u Y, .b F], [.u _, .u _, .i _]] => [goodP (P % M256) (A % M256) (B % M256) (N % M256) (red X Y F)]
  | _ => [False]
def cOfSum : FSpec := specA [.str [.u], .str [.y 32]] ofSumC ofSumG
def cMay : FSpec := specA [.str [.u], .str pSg] mayC mayG'
def cCk : FSpec := specA [.str pCv] ckC ckG
def cLook : FSpec := specA [.str pCv, .str [.u]] lookC lookG
def cPnt : FSpec := specA [.str pCv, .str [.u]] pntC pntG
def cBoth : FSpec := specA [.str pCv, .str [.u], .str pPt, .str [.u]] bothC bothG
def cLift2 : FSpec := specA [.str pCv, .str [.u], .bit] lift2C lift2G
def cPof : FSpec := specA [.str pCv, .str pSg] pofC pofG
def cxSec : Cx := [(39, specUU cmpG)]
def cxORest : Cx := [(37, specUU dmG)]
def cxOMin : Cx := [(32, specUUU noC fsubG)]
def cxOMul : Cx := [(33, specUUU noC fmulG)]
def cxOfSum : Cx := [(34, specB fromG), (23, specUU oRestG)]
def cxOInv : Cx := [(29, specUU finvG)]
def cxHigh : Cx := [(17, specUU minG), (39, specUU cmpG)]
def cxMay : Cx := [(25, specUU secG), (26, specUU oHighG)]
def cxCk : Cx := [(24, cBe)]
def cxLook : Cx := [(12, cCk), (25, specUU secG)]
def cxPnt : Cx := [(35, cLook), (30, cMultS')]
def cxBoth : Cx := [(30, cMultS'), (31, cAddS')]
def cxLift2 : Cx := [(24, cBe), (43, cRight), (42, cRoot), (45, cHsub), (54, cHmul), (44, specU oddG), (39, specUU cmpG)]
def cxPof : Cx := [(27, specUU addG), (28, cLift2)]
-- VC vc_isSecret HASH 1e57fcc54e94d1cc
theorem vc_isSecret (n d : Nat) :
    Owes Try.prog cxSec [] 100 Try.f25 [sU n, sU d] (secG n d) =
    (let x1 : Bool := !Go.Sx.conj [d % Go.Sx.M256 == (0 : Nat)]; (x1 = Bool.true → x1 = Bool.true) ∧ (x1 = Bool.true → x1 = Bool.true) ∧ (x1 = Bool.true → x1 = Bool.true) ∧ (x1 = Bool.true → x1 = Bool.true) ∧ (x1 && Decidable.decide (Go.Sx.cmpN d n < (0 : Int))) = Go.Proofs.Ytbfcccoeekonlaa.secB n d) := by kernel_rfl
-- END VC
-- VC vc_oRest HASH da3fcd6dea9404a9
theorem vc_oRest (n a : Nat) :
    Owes Try.prog cxORest [] 100 Try.f23 [sU n, sU a] (oRestG n a) =
    (let x1 : Nat := n % Go.Sx.M256; (if x1 = (0 : Nat) then (0 : Nat) else a % Go.Sx.M256 % x1) % Go.Sx.M256 = Go.Proofs.Ytbfcccoeekonlaa.restN n a % Go.Sx.M256 ∧ True) := by kernel_rfl
-- END VC
-- VC vc_oMinus HASH 4d32a97795274917
theorem vc_oMinus (n a : Nat) :
    Owes Try.prog cxOMin [] 100 Try.f17 [sU n, sU a] (minG n a) =
    (let x1 : Nat := n % Go.Sx.M256; (if Go.Proofs.Ytbfcccoeekonlaa.fE (0 : Nat) a n = (0 : Int) then ((0 : Nat) + x1 - a % Go.Sx.M256) % x1 else (0 : Nat)) % Go.Sx.M256 = Go.Proofs.Ytbfcccoeekonlaa.minN n a % Go.Sx.M256 ∧ True) := by kernel_rfl
-- END VC
-- VC vc_oMul HASH c0f6d21179140f3b
theorem vc_oMul (n a b : Nat) :
    Owes Try.prog cxOMul [] 100 Try.f18 [sU n, sU a, sU b] (oMulG n a b) =
    ((if Go.Proofs.Ytbfcccoeekonlaa.fE a b n = (0 : Int) then a % Go.Sx.M256 * (b % Go.Sx.M256) % (n % Go.Sx.M256) else (0 : Nat)) % Go.Sx.M256 = Go.Proofs.Ytbfcccoeekonlaa.mulN n a b % Go.Sx.M256 ∧ True) := by kernel_rfl
-- END VC
-- VC vc_ofSum HASH 080ab2cbddfb0053
theorem vc_ofSum (n : Nat) (g : Nat → Int) :
    Owes Try.prog cxOfSum [] 100 Try.f19 [sU n, sBy 32 g] (ofSumG [[.u n], [.y 32 g]]) =
    (let x1 : Nat := Go.Proofs.Ytbfcccoeekonlaa.restN n (Go.Sx.fromN g (32 : Nat)) % Go.Sx.M256; (∀ (j : Nat), j < (32 : Nat) → (0 : Int) ≤ g j ∧ g j < (256 : Int)) ∧ x1 = x1 ∧ True) := by kernel_rfl
-- END VC
-- VC vc_oInv HASH 5514f20ba2a48783
theorem vc_oInv (n a : Nat) :
    Owes Try.prog cxOInv [] 100 Try.f15 [sU n, sU a] (oinvG n a) =
    (let x1 : Nat := Go.Proofs.Ytbfcccoeekonlaa.oinvN n a % Go.Sx.M256; ((Go.Proofs.Ytbfcccoeekonlaa.finvE a n != (0 : Int)) = Bool.true → ((0 : Nat) = x1 ∧ True) ∧ (16 : Int) = Go.Proofs.Ytbfcccoeekonlaa.oinvE n a) ∧ ((Go.Proofs.Ytbfcccoeekonlaa.finvE a n != (0 : Int)) = Bool.false → ((if Go.Proofs.Ytbfcccoeekonlaa.finvE a n = (0 : Int) then Go.Proofs.Ytbfcccoeekonlaa.invN (a % Go.Sx.M256) (n % Go.Sx.M256) else (0 : Nat)) % Go.Sx.M256 = x1 ∧ True) ∧ (0 : Int) = Go.Proofs.Ytbfcccoeekonlaa.oinvE n a)) := by kernel_rfl
-- END VC
-- VC vc_oHigh HASH 9695e55b83d0bd40
theorem vc_oHigh (n s : Nat) :
    Owes Try.prog cxHigh [] 100 Try.f26 [sU n, sU s] (oHighG n s) =
    (Decidable.decide (Go.Sx.cmpN s (Go.Proofs.Ytbfcccoeekonlaa.minN n s) > (0 : Int)) = Go.Proofs.Ytbfcccoeekonlaa.highB n s) := by kernel_rfl
-- END VC
-- VC vc_mayBe HASH 788ec7e561135874
theorem vc_mayBe (n R S : Nat) (o : Int) :
    Owes Try.prog cxMay [] 100 Try.f13 [sU n, sSg R S o] (mayG' [[.u n], [.u R, .u S, .i o]]) =
    (let x1 : Bool := Go.Proofs.Ytbfcccoeekonlaa.secB n R && Go.Proofs.Ytbfcccoeekonlaa.secB n S && !Go.Proofs.Ytbfcccoeekonlaa.highB n S; let x2 : Bool := x1 && Decidable.decide (o ≥ (0 : Int)); (Go.Proofs.Ytbfcccoeekonlaa.secB n R = Bool.true → Go.Proofs.Ytbfcccoeekonlaa.secB n R = Bool.true) ∧ (Go.Proofs.Ytbfcccoeekonlaa.secB n R = Bool.true → Go.Proofs.Ytbfcccoeekonlaa.secB n R = Bool.true) ∧ (Go.Proofs.Ytbfcccoeekonlaa.secB n R = Bool.true → Go.Proofs.Ytbfcccoeekonlaa.secB n R = Bool.true) ∧ (Go.Proofs.Ytbfcccoeekonlaa.secB n R = Bool.true → Go.Proofs.Ytbfcccoeekonlaa.secB n R = Bool.true) ∧ ((Go.Proofs.Ytbfcccoeekonlaa.secB n R && Go.Proofs.Ytbfcccoeekonlaa.secB n S) = Bool.true → (Go.Proofs.Ytbfcccoeekonlaa.secB n R && Go.Proofs.Ytbfcccoeekonlaa.secB n S) = Bool.true) ∧ ((Go.Proofs.Ytbfcccoeekonlaa.secB n R && Go.Proofs.Ytbfcccoeekonlaa.secB n S) = Bool.true → (Go.Proofs.Ytbfcccoeekonlaa.secB n R && Go.Proofs.Ytbfcccoeekonlaa.secB n S) = Bool.true) ∧ ((Go.Proofs.Ytbfcccoeekonlaa.secB n R && Go.Proofs.Ytbfcccoeekonlaa.secB n S) = Bool.true → (Go.Proofs.Ytbfcccoeekonlaa.secB n R && Go.Proofs.Ytbfcccoeekonlaa.secB n S) = Bool.true) ∧ ((Go.Proofs.Ytbfcccoeekonlaa.secB n R && Go.Proofs.Ytbfcccoeekonlaa.secB n S) = Bool.true → (Go.Proofs.Ytbfcccoeekonlaa.secB n R && Go.Proofs.Ytbfcccoeekonlaa.secB n S) = Bool.true) ∧ ((Go.Proofs.Ytbfcccoeekonlaa.secB n R && Go.Proofs.Ytbfcccoeekonlaa.secB n S) = Bool.true → (Go.Proofs.Ytbfcccoeekonlaa.secB n R && Go.Proofs.Ytbfcccoeekonlaa.secB n S) = Bool.true) ∧ (x1 = Bool.true → x1 = Bool.true) ∧ (x1 = Bool.true → x1 = Bool.true) ∧ (x1 = Bool.true → x1 = Bool.true) ∧ (x2 = Bool.true → x2 = Bool.true) ∧ (x2 = Bool.true → x2 = Bool.true) ∧ (x2 = Bool.true → x2 = Bool.true) ∧ (x2 && Decidable.decide (o ≤ (3 : Int))) = Go.Proofs.Ytbfcccoeekonlaa.mayB n R S o) := by kernel_rfl
-- END VC
-- VC vc_cCheck HASH 79ac32e5cb22b9c9
theorem vc_cCheck (P A B N X Y : Nat) (F : Bool) :
    Owes Try.prog cxCk [] 100 Try.f12 [sCv P A B N X Y F] (ckG [[.u P, .u A, .u B, .u N, .u X, .u Y, .b F]]) =
    (let x1 : Nat := P % Go.Sx.M256; x1 = x1 ∧ Go.Proofs.Ytbfcccoeekonlaa.goodP x1 (A % Go.Sx.M256) (B % Go.Sx.M256) (N % Go.Sx.M256) (Go.Proofs.Ytbfcccoeekonlaa.red X Y F) ∧ (0 : Int) = (0 : Int)) := by kernel_rfl
-- END VC
-- VC vc_look HASH 99d25d180b74101b
theorem vc_look (P A B N X Y d : Nat) (F : Bool) :
    Owes Try.prog cxLook [] 100 Try.f35 [sCv P A B N X Y F, sU d] (lookG [[.u P, .u A, .u B, .u N, .u X, .u Y, .b F], [.u d]]) =
    (let x1 : Int := if Go.Proofs.Ytbfcccoeekonlaa.secB N d = Bool.true then (0 : Int) else (6 : Int); Go.Proofs.Ytbfcccoeekonlaa.goodP (P % Go.Sx.M256) (A % Go.Sx.M256) (B % Go.Sx.M256) (N % Go.Sx.M256) (Go.Proofs.Ytbfcccoeekonlaa.red X Y F) ∧ (((0 : Int) != (0 : Int)) = Bool.true → (0 : Int) = x1) ∧ (((0 : Int) != (0 : Int)) = Bool.false → ((!Go.Proofs.Ytbfcccoeekonlaa.secB N d) = Bool.true → (6 : Int) = x1) ∧ ((!Go.Proofs.Ytbfcccoeekonlaa.secB N d) = Bool.false → (0 : Int) = x1))) := by kernel_rfl
-- END VC
-- VC vc_sPoint HASH 7ec7dda309d8ed4d
theorem vc_sPoint (P A B N X Y d : Nat) (F : Bool) :
    Owes Try.prog cxPnt [] 100 Try.f21 [sCv P A B N X Y F, sU d] (pntG [[.u P, .u A, .u B, .u N, .u X, .u Y, .b F], [.u d]]) =
    (let x1 : Nat := P % Go.Sx.M256; let x2 : Nat := A % Go.Sx.M256; let x3 : Nat := B % Go.Sx.M256; let x4 : Int := if Go.Proofs.Ytbfcccoeekonlaa.secB N d = Bool.true then (0 : Int) else (6 : Int); let x5 : Nat := d % Go.Sx.M256; let x6 : Nat := (Go.Proofs.Ytbfcccoeekonlaa.cmulR x1 x2 x5 (Go.Proofs.Ytbfcccoeekonlaa.red X Y F) (256 : Nat)).fst % Go.Sx.M256; let x7 : Nat := (Go.Proofs.Ytbfcccoeekonlaa.cmulR x1 x2 x5 (Go.Proofs.Ytbfcccoeekonlaa.red X Y F) (256 : Nat)).snd.fst % Go.Sx.M256; let x8 : Bool := (Go.Proofs.Ytbfcccoeekonlaa.cmulR x1 x2 x5 (Go.Proofs.Ytbfcccoeekonlaa.red X Y F) (256 : Nat)).snd.snd; Go.Proofs.Ytbfcccoeekonlaa.goodP x1 x2 x3 (N % Go.Sx.M256) (Go.Proofs.Ytbfcccoeekonlaa.red X Y F) ∧ ((x4 != (0 : Int)) = Bool.true → ((0 : Nat) = x6 ∧ (0 : Nat) = x7 ∧ Bool.false = x8 ∧ True) ∧ x4 = (0 : Int)) ∧ ((x4 != (0 : Int)) = Bool.false → Go.Proofs.Ytbfcccoeekonlaa.goodP x1 x2 x3 (N % Go.Sx.M256) (Go.Proofs.Ytbfcccoeekonlaa.red X Y F) ∧ Go.Proofs.Ytbfcccoeekonlaa.onP x1 x2 x3 (Go.Proofs.Ytbfcccoeekonlaa.red X Y F) ∧ Go.Proofs.Ytbfcccoeekonlaa.mulOK x1 x2 x5 (Go.Proofs.Ytbfcccoeekonlaa.red X Y F) ∧ (x6 = x6 ∧ x7 = x7 ∧ x8 = x8 ∧ True) ∧ (0 : Int) = (0 : Int))) := by kernel_rfl
-- END VC
-- VC vc_both HASH 5655bcdc0180e785
theorem vc_both (P A B N X Y k x y l : Nat) (F f : Bool) :
    Owes Try.prog cxBoth [] 100 Try.f16 [sCv P A B N X Y F, sU k, sPt x y f, sU l] (bothG [[.u P, .u A, .u B, .u N, .u X, .u Y, .b F], [.u k], [.u x, .u y, .b f], [.u l]]) =
    (let x1 : Nat := P % Go.Sx.M256; let x2 : Nat := A % Go.Sx.M256; let x3 : Nat := B % Go.Sx.M256; let x4 : Nat := k % Go.Sx.M256; let x5 : Nat := l % Go.Sx.M256; Go.Proofs.Ytbfcccoeekonlaa.goodP x1 x2 x3 (N % Go.Sx.M256) (Go.Proofs.Ytbfcccoeekonlaa.red X Y F) ∧ Go.Proofs.Ytbfcccoeekonlaa.onP x1 x2 x3 (Go.Proofs.Ytbfcccoeekonlaa.red X Y F) ∧ Go.Proofs.Ytbfcccoeekonlaa.mulOK x1 x2 x4 (Go.Proofs.Ytbfcccoeekonlaa.red X Y F) ∧ Go.Proofs.Ytbfcccoeekonlaa.goodP x1 x2 x3 (N % Go.Sx.M256) (Go.Proofs.Ytbfcccoeekonlaa.red X Y F) ∧ Go.Proofs.Ytbfcccoeekonlaa.onP x1 x2 x3 (Go.Proofs.Ytbfcccoeekonlaa.red x y f) ∧ Go.Proofs.Ytbfcccoeekonlaa.mulOK x1 x2 x5 (Go.Proofs.Ytbfcccoeekonlaa.red x y f) ∧ Go.Proofs.Ytbfcccoeekonlaa.goodP x1 x2 x3 (N % Go.Sx.M256) (Go.Proofs.Ytbfcccoeekonlaa.red X Y F) ∧ Go.Proofs.Ytbfcccoeekonlaa.onP x1 x2 x3 (Go.Proofs.Ytbfcccoeekonlaa.red (Go.Proofs.Ytbfcccoeekonlaa.cmulR x1 x2 x4 (Go.Proofs.Ytbfcccoeekonlaa.red X Y F) (256 : Nat)).fst (Go.Proofs.Ytbfcccoeekonlaa.cmulR x1 x2 x4 (Go.Proofs.Ytbfcccoeekonlaa.red X Y F) (256 : Nat)).snd.fst (Go.Proofs.Ytbfcccoeekonlaa.cmulR x1 x2 x4 (Go.Proofs.Ytbfcccoeekonlaa.red X Y F) (256 : Nat)).snd.snd) ∧ Go.Proofs.Ytbfcccoeekonlaa.onP x1 x2 x3 (Go.Proofs.Ytbfcccoeekonlaa.red (Go.Proofs.Ytbfcccoeekonlaa.cmulR x1 x2 x5 (Go.Proofs.Ytbfcccoeekonlaa.red x y f) (256 : Nat)).fst (Go.Proofs.Ytbfcccoeekonlaa.cmulR x1 x2 x5 (Go.Proofs.Ytbfcccoeekonlaa.red x y f) (256 : Nat)).snd.fst (Go.Proofs.Ytbfcccoeekonlaa.cmulR x1 x2 x5 (Go.Proofs.Ytbfcccoeekonlaa.red x y f) (256 : Nat)).snd.snd) ∧ Go.Proofs.Ytbfcccoeekonlaa.sumOK x1 x2 (Go.Proofs.Ytbfcccoeekonlaa.red (Go.Proofs.Ytbfcccoeekonlaa.cmulR x1 x2 x4 (Go.Proofs.Ytbfcccoeekonlaa.red X Y F) (256 : Nat)).fst (Go.Proofs.Ytbfcccoeekonlaa.cmulR x1 x2 x4 (Go.Proofs.Ytbfcccoeekonlaa.red X Y F) (256 : Nat)).snd.fst (Go.Proofs.Ytbfcccoeekonlaa.cmulR x1 x2 x4 (Go.Proofs.Ytbfcccoeekonlaa.red X Y F) (256 : Nat)).snd.snd) (Go.Proofs.Ytbfcccoeekonlaa.red (Go.Proofs.Ytbfcccoeekonlaa.cmulR x1 x2 x5 (Go.Proofs.Ytbfcccoeekonlaa.red x y f) (256 : Nat)).fst (Go.Proofs.Ytbfcccoeekonlaa.cmulR x1 x2 x5 (Go.Proofs.Ytbfcccoeekonlaa.red x y f) (256 : Nat)).snd.fst (Go.Proofs.Ytbfcccoeekonlaa.cmulR x1 x2 x5 (Go.Proofs.Ytbfcccoeekonlaa.red x y f) (256 : Nat)).snd.snd) ∧ ((Go.Proofs.Ytbfcccoeekonlaa.csum x1 x2 (Go.Proofs.Ytbfcccoeekonlaa.red (Go.Proofs.Ytbfcccoeekonlaa.cmulR x1 x2 x4 (Go.Proofs.Ytbfcccoeekonlaa.red X Y F) (256 : Nat)).fst (Go.Proofs.Ytbfcccoeekonlaa.cmulR x1 x2 x4 (Go.Proofs.Ytbfcccoeekonlaa.red X Y F) (256 : Nat)).snd.fst (Go.Proofs.Ytbfcccoeekonlaa.cmulR x1 x2 x4 (Go.Proofs.Ytbfcccoeekonlaa.red X Y F) (256 : Nat)).snd.snd) (Go.Proofs.Ytbfcccoeekonlaa.red (Go.Proofs.Ytbfcccoeekonlaa.cmulR x1 x2 x5 (Go.Proofs.Ytbfcccoeekonlaa.red x y f) (256 : Nat)).fst (Go.Proofs.Ytbfcccoeekonlaa.cmulR x1 x2 x5 (Go.Proofs.Ytbfcccoeekonlaa.red x y f) (256 : Nat)).snd.fst (Go.Proofs.Ytbfcccoeekonlaa.cmulR x1 x2 x5 (Go.Proofs.Ytbfcccoeekonlaa.red x y f) (256 : Nat)).snd.snd)).fst % Go.Sx.M256 = (Go.Proofs.Ytbfcccoeekonlaa.bothP x1 x2 (Go.Proofs.Ytbfcccoeekonlaa.red X Y F) x4 (Go.Proofs.Ytbfcccoeekonlaa.red x y f) x5).fst % Go.Sx.M256 ∧ (Go.Proofs.Ytbfcccoeekonlaa.csum x1 x2 (Go.Proofs.Ytbfcccoeekonlaa.red (Go.Proofs.Ytbfcccoeekonlaa.cmulR x1 x2 x4 (Go.Proofs.Ytbfcccoeekonlaa.red X Y F) (256 : Nat)).fst (Go.Proofs.Ytbfcccoeekonlaa.cmulR x1 x2 x4 (Go.Proofs.Ytbfcccoeekonlaa.red X Y F) (256 : Nat)).snd.fst (Go.Proofs.Ytbfcccoeekonlaa.cmulR x1 x2 x4 (Go.Proofs.Ytbfcccoeekonlaa.red X Y F) (256 : Nat)).snd.snd) (Go.Proofs.Ytbfcccoeekonlaa.red (Go.Proofs.Ytbfcccoeekonlaa.cmulR x1 x2 x5 (Go.Proofs.Ytbfcccoeekonlaa.red x y f) (256 : Nat)).fst (Go.Proofs.Ytbfcccoeekonlaa.cmulR x1 x2 x5 (Go.Proofs.Ytbfcccoeekonlaa.red x y f) (256 : Nat)).snd.fst (Go.Proofs.Ytbfcccoeekonlaa.cmulR x1 x2 x5 (Go.Proofs.Ytbfcccoeekonlaa.red x y f) (256 : Nat)).snd.snd)).snd.fst % Go.Sx.M256 = (Go.Proofs.Ytbfcccoeekonlaa.bothP x1 x2 (Go.Proofs.Ytbfcccoeekonlaa.red X Y F) x4 (Go.Proofs.Ytbfcccoeekonlaa.red x y f) x5).snd.fst % Go.Sx.M256 ∧ (Go.Proofs.Ytbfcccoeekonlaa.csum x1 x2 (Go.Proofs.Ytbfcccoeekonlaa.red (Go.Proofs.Ytbfcccoeekonlaa.cmulR x1 x2 x4 (Go.Proofs.Ytbfcccoeekonlaa.red X Y F) (256 : Nat)).fst (Go.Proofs.Ytbfcccoeekonlaa.cmulR x1 x2 x4 (Go.Proofs.Ytbfcccoeekonlaa.red X Y F) (256 : Nat)).snd.fst (Go.Proofs.Ytbfcccoeekonlaa.cmulR x1 x2 x4 (Go.Proofs.Ytbfcccoeekonlaa.red X Y F) (256 : Nat)).snd.snd) (Go.Proofs.Ytbfcccoeekonlaa.red (Go.Proofs.Ytbfcccoeekonlaa.cmulR x1 x2 x5 (Go.Proofs.Ytbfcccoeekonlaa.red x y f) (256 : Nat)).fst (Go.Proofs.Ytbfcccoeekonlaa.cmulR x1 x2 x5 (Go.Proofs.Ytbfcccoeekonlaa.red x y f) (256 : Nat)).snd.fst (Go.Proofs.Ytbfcccoeekonlaa.cmulR x1 x2 x5 (Go.Proofs.Ytbfcccoeekonlaa.red x y f) (256 : Nat)).snd.snd)).snd.snd = (Go.Proofs.Ytbfcccoeekonlaa.bothP x1 x2 (Go.Proofs.Ytbfcccoeekonlaa.red X Y F) x4 (Go.Proofs.Ytbfcccoeekonlaa.red x y f) x5).snd.snd ∧ True) ∧ (0 : Int) = (0 : Int)) := by kernel_rfl
-- END VC
-- VC vc_Lift2 HASH 1143ae14f793cd81
theorem vc_Lift2 (P A B N X Y x : Nat) (F odd : Bool) :
    Owes Try.prog cxLift2 [] 100 Try.f28 [sCv P A B N X Y F, sU x, sB odd] (lift2G [[.u P, .u A, .u B, .u N, .u X, .u Y, .b F], [.u x], [.b odd]]) =
    (let x1 : Nat := P % Go.Sx.M256; let x2 : Nat := A % Go.Sx.M256; let x3 : Nat := B % Go.Sx.M256; let x4 : Nat := x % Go.Sx.M256; let x5 : Int := Go.Proofs.Ytbfcccoeekonlaa.liftE x1 x2 x3 x4 odd; let x6 : Nat := (if x5 = (0 : Int) then x4 else (0 : Nat)) % Go.Sx.M256; let x7 : Nat := (if x5 = (0 : Int) then Go.Proofs.Ytbfcccoeekonlaa.liftY x1 x2 x3 x4 odd else (0 : Nat)) % Go.Sx.M256; let x8 : Nat := Go.Proofs.Ytbfcccoeekonlaa.rhsN x1 x2 x3 x4 % Go.Sx.M256; let x9 : Nat := x8 ^ (x1 / (4 : Nat) + (1 : Nat)) % x1 % Go.Sx.M256; let x10 : Nat := ((0 : Nat) + x1 - x9) % x1 % Go.Sx.M256; x1 = x1 ∧ Go.Proofs.Ytbfcccoeekonlaa.goodP x1 x2 x3 (N % Go.Sx.M256) (Go.Proofs.Ytbfcccoeekonlaa.red X Y F) ∧ (Decidable.decide (Go.Sx.cmpN x P ≥ (0 : Int)) = Bool.true → ((0 : Nat) = x6 ∧ (0 : Nat) = x7 ∧ Bool.false = Bool.false ∧ True) ∧ (6 : Int) = x5) ∧ (Decidable.decide (Go.Sx.cmpN x P ≥ (0 : Int)) = Bool.false → x2 < x1 ∧ x3 < x1 ∧ x4 < x1 ∧ x8 < x1 ∧ ((!(x9 % (2 : Nat) == (1 : Nat)) == odd) = Bool.true → (0 : Nat) < x1 ∧ x9 < x1 ∧ ((!(x10 % (2 : Nat) == (1 : Nat)) == odd) = Bool.true → x10 < x1 ∧ x10 < x1 ∧ x2 < x1 ∧ x3 < x1 ∧ x4 < x1 ∧ ((!Go.Sx.conj [x10 * x10 % x1 % Go.Sx.M256 == x8]) = Bool.true → ((0 : Nat) = x6 ∧ (0 : Nat) = x7 ∧ Bool.false = Bool.false ∧ True) ∧ (16 : Int) = x5) ∧ ((!Go.Sx.conj [x10 * x10 % x1 % Go.Sx.M256 == x8]) = Bool.false → ((0 : Nat) = x6 ∧ (0 : Nat) = x7 ∧ Bool.false = Bool.false ∧ True) ∧ (16 : Int) = x5)) ∧ ((!(x10 % (2 : Nat) == (1 : Nat)) == odd) = Bool.false → x10 < x1 ∧ x10 < x1 ∧ x2 < x1 ∧ x3 < x1 ∧ x4 < x1 ∧ ((!Go.Sx.conj [x10 * x10 % x1 % Go.Sx.M256 == x8]) = Bool.true → ((0 : Nat) = x6 ∧ (0 : Nat) = x7 ∧ Bool.false = Bool.false ∧ True) ∧ (16 : Int) = x5) ∧ ((!Go.Sx.conj [x10 * x10 % x1 % Go.Sx.M256 == x8]) = Bool.false → (x4 = x6 ∧ x10 = x7 ∧ Bool.false = Bool.false ∧ True) ∧ (0 : Int) = x5))) ∧ ((!(x9 % (2 : Nat) == (1 : Nat)) == odd) = Bool.false → ((!(x9 % (2 : Nat) == (1 : Nat)) == odd) = Bool.true → x9 < x1 ∧ x9 < x1 ∧ x2 < x1 ∧ x3 < x1 ∧ x4 < x1 ∧ ((!Go.Sx.conj [x9 * x9 % x1 % Go.Sx.M256 == x8]) = Bool.true → ((0 : Nat) = x6 ∧ (0 : Nat) = x7 ∧ Bool.false = Bool.false ∧ True) ∧ (16 : Int) = x5) ∧ ((!Go.Sx.conj [x9 * x9 % x1 % Go.Sx.M256 == x8]) = Bool.false → ((0 : Nat) = x6 ∧ (0 : Nat) = x7 ∧ Bool.false = Bool.false ∧ True) ∧ (16 : Int) = x5)) ∧ ((!(x9 % (2 : Nat) == (1 : Nat)) == odd) = Bool.false → x9 < x1 ∧ x9 < x1 ∧ x2 < x1 ∧ x3 < x1 ∧ x4 < x1 ∧ ((!Go.Sx.conj [x9 * x9 % x1 % Go.Sx.M256 == x8]) = Bool.true → ((0 : Nat) = x6 ∧ (0 : Nat) = x7 ∧ Bool.false = Bool.false ∧ True) ∧ (16 : Int) = x5) ∧ ((!Go.Sx.conj [x9 * x9 % x1 % Go.Sx.M256 == x8]) = Bool.false → (x4 = x6 ∧ x9 = x7 ∧ Bool.false = Bool.false ∧ True) ∧ (0 : Int) = x5))))) := by kernel_rfl
-- END VC
-- VC vc_pointOf HASH 398f34e4024587ef
theorem vc_pointOf (P A B N X Y R S : Nat) (F : Bool) (o : Int) :
    Owes Try.prog cxPof [] 100 Try.f14 [sCv P A B N X Y F, sSg R S o] (pofG [[.u P, .u A, .u B, .u N, .u X, .u Y, .b F], [.u R, .u S, .i o]]) =
    (let x1 : Nat := P % Go.Sx.M256; let x2 : Nat := A % Go.Sx.M256; let x3 : Nat := B % Go.Sx.M256; let x4 : Nat := N % Go.Sx.M256; let x5 : Nat := R % Go.Sx.M256; let x6 : Nat := x5 + x4; let x7 : Bool := Decidable.decide (Go.Sx.M256 ≤ x6); let x8 : Nat := (R + N) % Go.Sx.M256; let x9 : Bool := o.tmod (2 : Int) == (1 : Int); let x10 : Int := Go.Proofs.Ytbfcccoeekonlaa.liftE x1 x2 x3 x8 x9; let x11 : Nat := (Go.Proofs.Ytbfcccoeekonlaa.pofP x1 x2 x3 N R o).fst % Go.Sx.M256; let x12 : Nat := (Go.Proofs.Ytbfcccoeekonlaa.pofP x1 x2 x3 N R o).snd.fst % Go.Sx.M256; let x13 : Int := Go.Proofs.Ytbfcccoeekonlaa.pofE x1 x2 x3 N R o; let x14 : Int := Go.Proofs.Ytbfcccoeekonlaa.liftE x1 x2 x3 x5 x9; (Decidable.decide (o ≥ (2 : Int)) = Bool.true → Go.Proofs.Ytbfcccoeekonlaa.goodP x1 x2 x3 x4 (Go.Proofs.Ytbfcccoeekonlaa.red X Y F) ∧ ((!x7) = Bool.true → (!x7) = Bool.true) ∧ (x7 = Bool.false → (!x7) = Bool.true) ∧ ((x7 || x10 != (0 : Int)) = Bool.true → ((0 : Nat) = x11 ∧ (0 : Nat) = x12 ∧ Bool.false = (Go.Proofs.Ytbfcccoeekonlaa.pofP x1 x2 x3 N R o).snd.snd ∧ True) ∧ (10 : Int) = x13) ∧ ((x7 || x10 != (0 : Int)) = Bool.false → ((if x10 = (0 : Int) then x8 else (0 : Nat)) % Go.Sx.M256 = x11 ∧ (if x10 = (0 : Int) then Go.Proofs.Ytbfcccoeekonlaa.liftY x1 x2 x3 x8 x9 else (0 : Nat)) % Go.Sx.M256 = x12 ∧ Bool.false = (Go.Proofs.Ytbfcccoeekonlaa.pofP x1 x2 x3 N R o).snd.snd ∧ True) ∧ (0 : Int) = x13)) ∧ (Decidable.decide (o ≥ (2 : Int)) = Bool.false → Go.Proofs.Ytbfcccoeekonlaa.goodP x1 x2 x3 x4 (Go.Proofs.Ytbfcccoeekonlaa.red X Y F) ∧ ((x14 != (0 : Int)) = Bool.true → ((0 : Nat) = x11 ∧ (0 : Nat) = x12 ∧ Bool.false = (Go.Proofs.Ytbfcccoeekonlaa.pofP x1 x2 x3 N R o).snd.snd ∧ True) ∧ (10 : Int) = x13) ∧ ((x14 != (0 : Int)) = Bool.false → ((if x14 = (0 : Int) then x5 else (0 : Nat)) % Go.Sx.M256 = x11 ∧ (if x14 = (0 : Int) then Go.Proofs.Ytbfcccoeekonlaa.liftY x1 x2 x3 x5 x9 else (0 : Nat)) % Go.Sx.M256 = x12 ∧ Bool.false = (Go.Proofs.Ytbfcccoeekonlaa.pofP x1 x2 x3 N R o).snd.snd ∧ True) ∧ (0 : Int) = x13))) := by kernel_rfl
-- END VC

end Go.Proofs.Ytbfcccoeekonlaa
end

section
/-
  The small curves: the sum of two points has the place that is the sum of theirs.
-/
namespace Go.Proofs.Ytbfcccoeekonlaa
open Go.Sx

theorem pair_dvd {p x1 y1 : Nat} {q r : Nat × Nat} (h : pairOK p x1 y1 q r = true) (hr : r.2 ≠ 0) (h1 : x1 ≤ p) (h2 : y1 ≤ p) (h3 : r.1 ≤ p) :
    x1 ≠ q.1 ∧ (p : Int) ∣ ((r.1 : Int) + x1 + q.1) * (((q.1 : Int) - x1) * ((q.1 : Int) - x1)) - ((q.2 : Int) - y1) * ((q.2 : Int) - y1) ∧ (p : Int) ∣ ((r.2 : Int) + y1) * ((q.1 : Int) - x1) - ((q.2 : Int) - y1) * ((x1 : Int) - r.1) := by
  obtain ⟨x2, y2⟩ := q
  obtain ⟨x3, y3⟩ := r
  unfold pairOK at h
  have h3' : x3 ≤ p := h3
  have e : Nat.beq y3 0 = false := by
    rcases Bool.eq_false_or_eq_true (Nat.beq y3 0) with e | e
    · exact absurd (Nat.eq_of_beq_eq_true e) hr
    · exact e
  simp only [e, Bool.false_or, Bool.and_eq_true, Bool.not_eq_true'] at h
  obtain ⟨g1, g2, g3⟩ := h
  have cd := Cg.sub (Cg.self p x2) (Cg.self p x1) h1
  have ce := Cg.sub (Cg.self p y2) (Cg.self p y1) h2
  have cz := Cg.sub (Cg.self p x1) (Cg.self p x3) h3'
  refine ⟨fun h => ?_, ?_, ?_⟩
  · have h : x1 = x2 := h
    rw [h, Nat.beq_refl] at g1
    cases g1
  · exact Cg.of_eq (Nat.eq_of_beq_eq_true g2) (((Cg.self p x3).add (Cg.self p x1)).add (Cg.self p x2) |>.mul (cd.mul cd)) (ce.mul ce)
  · exact Cg.of_eq (Nat.eq_of_beq_eq_true g3) (((Cg.self p y3).add (Cg.self p y1)).mul cd) (ce.mul cz)
/-- A line through two points. -/
theorem through_is {p s x1 y1 x2 y2 x3 y3 : Nat} {f g : Bool} {D E u : Int} (hs : Cg p s (E * u)) (hx1 : x1 < p) (hy1 : y1 < p) (hx2 : x2 < p) (hx3 : x3 < p) (hy3 : y3 < p)
    (hu : (p : Int) ∣ D * u - 1) (h1 : (p : Int) ∣ ((x3 : Int) + x1 + x2) * (D * D) - E * E) (h2 : (p : Int) ∣ ((y3 : Int) + y1) * D - E * ((x1 : Int) - x3)) :
    throughN p s (x1, y1, f) (x2, y2, g) = (x3, y3, false) := by
  have h0 := lt_pos hx1
  have cx : Cg p (((s * s % p + p - x1) % p + p - x2) % p) (x3 : Int) := by
    have c := ((((hs.mul hs).md.sub (Cg.self p x1) (by omega)).md.sub (Cg.self p x2) (by omega)).md)
    refine c.to ?_
    have := line_x h1 hu
    rw [show E * u * (E * u) - (x1 : Int) - (x2 : Int) - (x3 : Int) = E * u * (E * u) - ((x3 : Int) + x1 + x2) by omega]
    exact this
  have ex : ((s * s % p + p - x1) % p + p - x2) % p = x3 := cx.eq (Cg.self p x3) (Nat.mod_lt _ h0) hx3
  unfold throughN
  dsimp only
  rw [ex]
  have cy : Cg p ((s * ((x1 + p - x3) % p) % p + p - y1) % p) (y3 : Int) := by
    have c := ((hs.mul ((Cg.self p x1).sub (Cg.self p x3) (by omega)).md).md.sub (Cg.self p y1) (by omega)).md
    refine c.to ?_
    have := line_y h2 hu
    rw [show E * u * ((x1 : Int) - x3) - (y1 : Int) - (y3 : Int) = E * u * ((x1 : Int) - x3) - ((y3 : Int) + y1) by omega]
    exact this
  have ey : (s * ((x1 + p - x3) % p) % p + p - y1) % p = y3 := cy.eq (Cg.self p y3) (Nat.mod_lt _ h0) hy3
  rw [ey]
theorem diff_ne {p x1 x2 : Nat} (h1 : x1 < p) (h2 : x2 < p) (h : x1 ≠ x2) : 1 ≤ (x2 + p - x1) % p ∧ (x2 + p - x1) % p < p := by
  have hlt := Nat.mod_lt (x2 + p - x1) (lt_pos h1)
  refine ⟨?_, hlt⟩
  rcases Nat.eq_zero_or_pos ((x2 + p - x1) % p) with e | e
  · obtain ⟨k, hk⟩ := Nat.dvd_of_mod_eq_zero e
    have : k = 1 := by
      rcases Nat.lt_or_ge k 1 with g | g
      · have : k = 0 := by omega
        subst this; omega
      · rcases Nat.lt_or_ge 1 k with g' | g'
        · have := Nat.mul_le_mul_left p g'
          omega
        · omega
    subst this
    omega
  · exact e
theorem csum_pt {i a b : Nat} (hi : i < 8) (ha : a < cN i) (hb : b < cN i) : sumOK (cP i) 0 (ptOf i a) (ptOf i b) ∧ csum (cP i) 0 (ptOf i a) (ptOf i b) = ptOf i ((a + b) % cN i) := by
  obtain ⟨r1, r2⟩ := cP_range hi
  have inp : ∀ j, j < cN i → inP (cP i) (ptOf i j) := by
    intro j hj
    refine ⟨fun h => ?_⟩
    rcases Nat.eq_zero_or_pos j with e | e
    · subst e; cases h
    · rw [pt_pos i e]
      have F := one_of hi e hj
      exact ⟨F.lx, F.ly⟩
  have odd : cN i % 2 = 1 := by
    have : ∀ i : Fin 8, cN i.val % 2 = 1 := by decide
    exact this ⟨i, hi⟩
  have ia := inp a ha
  have ib := inp b hb
  rcases Nat.eq_zero_or_pos a with e | ea
  · subst e
    refine ⟨⟨by omega, ia, ib, fun h => by cases h⟩, ?_⟩
    rw [Nat.zero_add, Nat.mod_eq_of_lt hb]
    rfl
  rcases Nat.eq_zero_or_pos b with e | eb
  · subst e
    refine ⟨⟨by omega, ia, ib, fun _ h => by cases h⟩, ?_⟩
    rw [Nat.add_zero, Nat.mod_eq_of_lt ha, pt_pos i ea]
    rfl
  have Fa := one_of hi ea ha
  have Fb := one_of hi eb hb
  by_cases hab : a + b = cN i
  · have eb' : cN i - a = b := by omega
    have nx := Fa.nx
    have ny := Fa.ny
    rw [eb'] at nx ny
    have hlt := Fa.ly
    have hc : (ptOf i a).1 = (ptOf i b).1 ∧ ((ptOf i a).2.1 + (ptOf i b).2.1) % cP i = 0 := by
      rw [pt_pos i ea, pt_pos i eb]
      refine ⟨nx.symm, ?_⟩
      show (((tabOf i).getD a (0, 0)).2 + ((tabOf i).getD b (0, 0)).2) % cP i = 0
      rw [ny, Nat.add_sub_cancel' (Nat.le_of_lt hlt), Nat.mod_self]
    refine ⟨⟨by omega, ia, ib, fun _ _ h => absurd hc h⟩, ?_⟩
    rw [hab, Nat.mod_self, pt_zero]
    unfold csum
    rw [if_neg (by rw [pt_pos i ea]; exact Bool.false_ne_true), if_neg (by rw [pt_pos i eb]; exact Bool.false_ne_true), if_pos hc]
  -- the sum is not far
  have hc0 : 1 ≤ (a + b) % cN i := by
    rcases Nat.lt_or_ge (a + b) (cN i) with g | g
    · rw [Nat.mod_eq_of_lt g]; omega
    · rw [← Nat.sub_add_cancel g, Nat.add_mod_right, Nat.mod_eq_of_lt (by omega)]
      omega
  have hcN : (a + b) % cN i < cN i := Nat.mod_lt _ (by omega)
  have Fc := one_of hi hc0 hcN
  have rel : a ≠ b → ((tabOf i).getD a (0, 0)).1 ≠ ((tabOf i).getD b (0, 0)).1 ∧ ((cP i : Nat) : Int) ∣ ((((tabOf i).getD ((a + b) % cN i) (0, 0)).1 : Int) + (((tabOf i).getD a (0, 0)).1 : Int) + (((tabOf i).getD b (0, 0)).1 : Int)) * (((((tabOf i).getD b (0, 0)).1 : Int) - (((tabOf i).getD a (0, 0)).1 : Int)) * ((((tabOf i).getD b (0, 0)).1 : Int) - (((tabOf i).getD a (0, 0)).1 : Int))) - ((((tabOf i).getD b (0, 0)).2 : Int) - (((tabOf i).getD a (0, 0)).2 : Int)) * ((((tabOf i).getD b (0, 0)).2 : Int) - (((tabOf i).getD a (0, 0)).2 : Int)) ∧
      ((cP i : Nat) : Int) ∣ ((((tabOf i).getD ((a + b) % cN i) (0, 0)).2 : Int) + (((tabOf i).getD a (0, 0)).2 : Int)) * ((((tabOf i).getD b (0, 0)).1 : Int) - (((tabOf i).getD a (0, 0)).1 : Int)) - ((((tabOf i).getD b (0, 0)).2 : Int) - (((tabOf i).getD a (0, 0)).2 : Int)) * ((((tabOf i).getD a (0, 0)).1 : Int) - (((tabOf i).getD ((a + b) % cN i) (0, 0)).1 : Int)) := by
    intro hne
    rcases Nat.lt_or_ge a b with g | g
    · exact pair_dvd (pair_of hi ea g hb) (by have := Fc.y0; omega) (Nat.le_of_lt Fa.lx) (Nat.le_of_lt Fa.ly) (Nat.le_of_lt Fc.lx)
    · have h := pair_of hi eb (show b < a by omega) ha
      rw [Nat.add_comm b a] at h
      obtain ⟨k1, k2, k3⟩ := pair_dvd h (by have := Fc.y0; omega) (Nat.le_of_lt Fb.lx) (Nat.le_of_lt Fb.ly) (Nat.le_of_lt Fc.lx)
      refine ⟨fun h => k1 h.symm, ?_, ?_⟩
      · obtain ⟨z, hz⟩ := k2
        exact ⟨z, by rw [← hz]; grind⟩
      · obtain ⟨z, hz⟩ := k3
        exact ⟨-z, by rw [Int.mul_neg, ← hz]; grind⟩
  have g1 : ∀ A, 1 ≤ A → A < cP i → Nat.gcd A (cP i) = 1 := fun A h1 h2 => (pp_fact hi h1 h2).2.2
  have pa := pt_pos i ea
  have pb := pt_pos i eb
  have pc := pt_pos i hc0
  have dxa := Fa.dx
  have dya := Fa.dy
  by_cases hne : a = b
  · subst hne
    rw [← Nat.two_mul] at pc Fc ⊢
    rw [pa, pc]
    have hd : Nat.gcd ((((tabOf i).getD a (0, 0)).2 + ((tabOf i).getD a (0, 0)).2) % cP i) (cP i) = 1 := g1 _ (by have := Fa.d0; omega) (Nat.mod_lt _ (by omega))
    have lx := Fa.lx
    have ly := Fa.ly
    have zx := Fc.lx
    have zy := Fc.ly
    have d0 := Fa.d0
    rw [pa] at ia
    generalize (tabOf i).getD (2 * a % cN i) (0, 0) = t at *
    generalize (tabOf i).getD a (0, 0) = q at *
    obtain ⟨x, y⟩ := q
    obtain ⟨z, w⟩ := t
    have hn : ¬ (x = x ∧ (y + y) % cP i = 0) := fun h => d0 h.2
    refine ⟨⟨by omega, ia, ia, fun _ _ _ => ⟨fun _ => hd, fun h => absurd rfl h⟩⟩, ?_⟩
    have e : csum (cP i) 0 (x, y, false) (x, y, false) = throughN (cP i) (slopeN (cP i) 0 (x, y, false) (x, y, false)) (x, y, false) (x, y, false) := by
      unfold csum
      rw [if_neg Bool.false_ne_true, if_neg Bool.false_ne_true, if_neg hn]
    have cy2 := (Cg.self (cP i) y).add (Cg.self (cP i) y)
    have cxx := ((Cg.self (cP i) x).mul (Cg.self (cP i) x)).md
    have c3 : Cg (cP i) (tw3 (cP i) (x * x % cP i)) ((x : Int) * x + ((x : Int) * x + (x : Int) * x)) := (cxx.add (cxx.add cxx).md).md
    have hu := inv_cg (Nat.mod_lt _ (by omega)) hd cy2.md
    have cs : Cg (cP i) (slopeN (cP i) 0 (x, y, false) (x, y, false)) (((x : Int) * x + ((x : Int) * x + (x : Int) * x)) * ((invN ((y + y) % cP i) (cP i) : Nat) : Int)) := by
      unfold slopeN
      rw [if_pos rfl]
      exact ((c3.add (Cg.self (cP i) 0)).md.mul (Cg.self _ _)).md.to ⟨0, by simp⟩
    have c33 : Cg (cP i) (3 * x * x) ((x : Int) * x + ((x : Int) * x + (x : Int) * x)) := ⟨⟨0, by rw [Int.natCast_mul, Int.natCast_mul]; grind⟩⟩
    have h1 := Cg.of_eq dxa ((((Cg.self (cP i) z).add (Cg.self (cP i) x)).add (Cg.self (cP i) x)).mul (cy2.mul cy2)) (c33.mul c33)
    have h2 := Cg.of_eq dya (((Cg.self (cP i) w).add (Cg.self (cP i) y)).mul cy2) (c33.mul ((Cg.self (cP i) x).sub (Cg.self (cP i) z) (Nat.le_of_lt zx)))
    rw [e]
    exact through_is cs lx ly lx zx zy hu h1 h2
  · obtain ⟨k1, k2, k3⟩ := rel hne
    rw [pa, pb, pc]
    obtain ⟨dn1, dn2⟩ := diff_ne Fa.lx Fb.lx k1
    have hd := g1 _ dn1 dn2
    have lx := Fa.lx
    have ly := Fa.ly
    have lx2 := Fb.lx
    have zx := Fc.lx
    have zy := Fc.ly
    rw [pa] at ia
    rw [pb] at ib
    generalize (tabOf i).getD ((a + b) % cN i) (0, 0) = t at *
    generalize (tabOf i).getD a (0, 0) = q at *
    generalize (tabOf i).getD b (0, 0) = r at *
    obtain ⟨x1, y1⟩ := q
    obtain ⟨x2, y2⟩ := r
    obtain ⟨x3, y3⟩ := t
    have hne' : ¬ ((x1, y1, false) : Pt) = (x2, y2, false) := fun h => k1 (congrArg (·.1) h)
    have hn : ¬ (x1 = x2 ∧ (y1 + y2) % cP i = 0) := fun h => k1 h.1
    refine ⟨⟨by omega, ia, ib, fun _ _ _ => ⟨fun h => absurd h hne', fun _ => hd⟩⟩, ?_⟩
    have e : csum (cP i) 0 (x1, y1, false) (x2, y2, false) = throughN (cP i) (slopeN (cP i) 0 (x1, y1, false) (x2, y2, false)) (x1, y1, false) (x2, y2, false) := by
      unfold csum
      rw [if_neg Bool.false_ne_true, if_neg Bool.false_ne_true, if_neg hn]
    have cD := ((Cg.self (cP i) x2).sub (Cg.self (cP i) x1) (Nat.le_of_lt lx)).md
    have cE := ((Cg.self (cP i) y2).sub (Cg.self (cP i) y1) (Nat.le_of_lt ly)).md
    have hu := inv_cg dn2 hd cD
    have cs : Cg (cP i) (slopeN (cP i) 0 (x1, y1, false) (x2, y2, false)) (((y2 : Int) - y1) * ((invN ((x2 + cP i - x1) % cP i) (cP i) : Nat) : Int)) := by
      unfold slopeN
      rw [if_neg hne']
      exact (cE.mul (Cg.self _ _)).md
    rw [e]
    exact through_is cs lx ly lx2 zx zy hu k2 k3
end Go.Proofs.Ytbfcccoeekonlaa
end

section
/-
  Small curves: points so often, points by number, lifting.
-/
namespace Go.Proofs.Ytbfcccoeekonlaa
open Go.Sx

theorem good_all {i : Nat} (hi : i < 8) : goodP (cP i) 0 (cB i) (cN i) (cX i, cY i, false) := by
  match i, hi with
  | 0, _ | 1, _ | 2, _ | 3, _ | 4, _ | 5, _ | 6, _ | 7, _ => exact ⟨by decide, by decide, by decide, by decide, by decide, by decide +kernel, rfl, ⟨fun h => (by cases h), fun _ => by decide +kernel⟩⟩
  | k + 8, h => omega
theorem base_pt {i : Nat} (hi : i < 8) : (cX i, cY i, false) = ptOf i 1 := by
  match i, hi with
  | 0, _ | 1, _ | 2, _ | 3, _ | 4, _ | 5, _ | 6, _ | 7, _ => rfl
  | k + 8, h => omega
theorem cN_range {i : Nat} (h : i < 8) : 31 ≤ cN i ∧ cN i ≤ 643 := by
  have : ∀ i : Fin 8, 31 ≤ cN i.val ∧ cN i.val ≤ 643 := by decide
  exact this ⟨i, h⟩
theorem ixP_of {i : Nat} (hi : i < 8) : ixP (cP i) = i := by
  have : ∀ i : Fin 8, ixP (cP i.val) = i.val := by decide
  exact this ⟨i, hi⟩
theorem onP_pt {i j : Nat} (hi : i < 8) (hj : j < cN i) : onP (cP i) 0 (cB i) (ptOf i j) := by
  rcases Nat.eq_zero_or_pos j with e | e
  · subst e
    exact ⟨fun _ => ⟨rfl, rfl⟩, fun h => by cases h⟩
  · have F := one_of hi e hj
    rw [pt_pos i e]
    exact ⟨fun h => (by cases h), fun _ => ⟨F.lx, F.ly, F.on⟩⟩
theorem inM_pt {i j : Nat} (hi : i < 8) (hj : j < cN i) : inM (ptOf i j) := by
  have hM := M256_eq
  obtain ⟨_, r2⟩ := cP_range hi
  rcases Nat.eq_zero_or_pos j with e | e
  · subst e
    exact ⟨M_pos, M_pos⟩
  · have F := one_of hi e hj
    have h1 := F.lx
    have h2 := F.ly
    rw [pt_pos i e]
    exact ⟨by dsimp only; omega, by dsimp only; omega⟩
theorem cmul_at {i j k : Nat} (hi : i < 8) (hj : j < cN i) (hk : k < M256) : ∀ n, n ≤ 256 → cmulR (cP i) 0 k (ptOf i j) n = ptOf i (k / 2 ^ (256 - n) * j % cN i)
  | 0, _ => by
    rw [show k / 2 ^ (256 - 0) = 0 from Nat.div_eq_of_lt hk, Nat.zero_mul, Nat.zero_mod]
    rfl
  | n + 1, hn => by
    obtain ⟨r1, _⟩ := cN_range hi
    have ih := cmul_at hi hj hk n (by omega)
    obtain ⟨t, ht⟩ : ∃ t, t = 255 - n := ⟨_, rfl⟩
    rw [show 256 - n = t + 1 by omega] at ih
    have hs := half_step k t
    have lt : ∀ v, v % cN i < cN i := fun v => Nat.mod_lt v (by omega)
    have h1 := (csum_pt hi (lt (k / 2 ^ (t + 1) * j)) (lt (k / 2 ^ (t + 1) * j))).2
    have h2 := (csum_pt hi (lt (k / 2 ^ (t + 1) * j % cN i + k / 2 ^ (t + 1) * j % cN i)) hj).2
    rw [cmulR, ih, h1, h2, show 256 - (n + 1) = t by omega, show 255 - n = t by omega]
    have e1 : (k / 2 ^ (t + 1) * j % cN i + k / 2 ^ (t + 1) * j % cN i) % cN i = 2 * (k / 2 ^ (t + 1)) * j % cN i := by
      rw [← Nat.add_mod, ← Nat.two_mul, Nat.mul_assoc]
    by_cases hb : k.testBit t = true
    · rw [if_pos hb, e1, Nat.mod_add_mod, hs, hb, Bool.toNat_true, Nat.add_mul, Nat.one_mul]
    · rw [if_neg hb, e1, hs, Bool.eq_false_iff.2 hb, Bool.toNat_false]
      simp only [Nat.add_zero]
theorem cmul_pt {i j k : Nat} (hi : i < 8) (hj : j < cN i) (hk : k < M256) : mulOK (cP i) 0 k (ptOf i j) ∧ cmulR (cP i) 0 k (ptOf i j) 256 = ptOf i (k * j % cN i) := by
  obtain ⟨r1, _⟩ := cN_range hi
  have lt : ∀ v, v % cN i < cN i := fun v => Nat.mod_lt v (by omega)
  refine ⟨⟨fun n hn => ?_, fun n hn _ => ?_⟩, ?_⟩
  · rw [cmul_at hi hj hk n (by omega)]
    exact (csum_pt hi (lt _) (lt _)).1
  · rw [cmul_at hi hj hk n (by omega), (csum_pt hi (lt _) (lt _)).2]
    exact (csum_pt hi (lt _) hj).1
  · rw [cmul_at hi hj hk 256 (Nat.le_refl _), Nat.sub_self, Nat.pow_zero, Nat.div_one]
theorem isCv.good {i P A B N X Y : Nat} {F : Bool} (h : isCv i P A B N X Y F) : P % M256 = cP i ∧ A % M256 = 0 ∧ B % M256 = cB i ∧ N % M256 = cN i ∧ red X Y F = ptOf i 1 ∧ goodP (P % M256) (A % M256) (B % M256) (N % M256) (red X Y F) := by
  have e : red X Y F = (cX i, cY i, false) := by
    unfold red
    rw [h.x, h.y, h.f]
  refine ⟨h.p, h.a, h.b, h.n, by rw [e, base_pt h.lt], ?_⟩
  rw [h.p, h.a, h.b, h.n, e]
  exact good_all h.lt
theorem limb_low (N : Nat) : limb N 0 = ((N % M256 % 18446744073709551616 : Nat) : Int) := by
  have e : limb N 0 = ((N / 2 ^ (64 * 0) % 2 ^ 64 : Nat) : Int) := rfl
  rw [e, limb_mod N 0 (by decide), Nat.mul_zero, Nat.pow_zero, Nat.div_one]
theorem ok_Secret : ∀ (ls : List (List At)) (vs : List (Option Addr)), Ok (pointC ls) → Owes Try.prog cxSecret [] 100 Try.f5 (mkArgs [.str pCv, .int .i64] ls vs) (secretG ls) := by
  intro ls vs hc
  unfold pointC at hc
  split at hc
  · rename_i P A B N X Y F n
    have h : Owes Try.prog cxSecret [] 100 Try.f5 [sCv P A B N X Y F, sI .i64 n] (secretG [[.u P, .u A, .u B, .u N, .u X, .u Y, .b F], [.i n]]) := by
      rw [vc_Secret]
      obtain ⟨hcv, hn, _⟩ := hc
      obtain ⟨eP, eA, eB, eN, eb, hg⟩ := hcv.good
      have hi := hcv.lt
      obtain ⟨r1, r2⟩ := cN_range hi
      have hL := limb_low N
      rw [eN] at hL
      generalize ixP (P % M256) = i at *
      have m1 := Int.emod_nonneg n (show ((cN i : Nat) : Int) - 1 ≠ 0 by omega)
      have m2 := Int.emod_lt_of_pos n (show (0 : Int) < ((cN i : Nat) : Int) - 1 by omega)
      obtain ⟨a, ha⟩ := Int.eq_ofNat_of_zero_le m1
      intro x1 x2
      have E1 : x1 = ((cN i : Nat) : Int) - 1 := by
        simp only [x1]
        rw [hL, Nat.mod_eq_of_lt (by omega), IntWalk.i64_in ((cN i : Nat) : Int) (by omega), IntWalk.i64_in _ (by omega)]
      have E2 : x2 = ((1 + a : Nat) : Int) := by
        simp only [x2]
        rw [E1, ha, wrap_id (n := (a : Int)) (by omega), wrap_id (by omega)]
        omega
      clear_value x2 x1
      rw [E1, ha, E2, Int.toNat_natCast]
      refine ⟨hn, by omega, by omega, by decide, by decide, by decide, ?_, trivial⟩
      rw [join_one (by omega), Int.toNat_natCast, small_mod (by omega)]
    exact h
  · exact hc.1.elim
theorem ok_Lift : ∀ (ls : List (List At)) (vs : List (Option Addr)), Ok (liftC ls) → Owes Try.prog cxLift [] 100 Try.f28 (mkArgs [.str pCv, .str [.u], .bit] ls vs) (liftG ls) := by
  intro ls vs hc
  unfold liftC at hc
  split at hc
  · rename_i P A B N X Y F x odd
    have h : Owes Try.prog cxLift [] 100 Try.f28 [sCv P A B N X Y F, sU x, sB odd] (liftG [[.u P, .u A, .u B, .u N, .u X, .u Y, .b F], [.u x], [.b odd]]) := by
      rw [vc_Lift]
      obtain ⟨hg, hl, _⟩ := hc
      have h0 := lt_pos hg.A0
      have mM := md_M h0
      have lt := fun v => Nat.mod_lt v h0
      intro x1 x2 x3 x4 x5 x6 x7 x8 x9 x10 x11 x12
      have hA : x2 < x1 := hg.A0
      have h0 : 0 < x1 := h0
      have hB : x3 < x1 := hg.B0
      have E8 : x8 = rhsN x1 x2 x3 x4 := mM _
      have l8 : x8 < x1 := by rw [E8]; exact lt _
      have E10 : x10 = x9 := mM _
      have l9 : x9 < x1 := lt _
      have E12 : x12 = x11 := mM _
      have l11 : x11 < x1 := lt _
      have E9 : x9 = rhsN x1 x2 x3 x4 ^ (x1 / 4 + 1) % x1 := by simp only [x9]; rw [E8]
      have E11 : x11 = (0 + x1 - x9) % x1 := by simp only [x11]; rw [E10]
      refine ⟨rfl, hg, fun h => ?_, fun h => ?_⟩
      · have hge : x1 ≤ x4 := cmp_ge.1 (of_decide_eq_true h)
        have E5 : x5 = 0 := by simp only [x5]; rw [if_pos hge, Nat.zero_mod]
        have E6 : x6 = 0 := by simp only [x6]; rw [if_pos hge, Nat.zero_mod]
        have E7 : x7 = 6 := by simp only [x7]; rw [if_pos hge]
        rw [E5, E6, E7]
        exact ⟨⟨rfl, rfl, rfl, trivial⟩, rfl⟩
      · have hlt : x4 < x1 := Nat.lt_of_not_le fun c => of_decide_eq_false h (cmp_ge.2 c)
        have hn : ¬ x1 ≤ x4 := by omega
        obtain ⟨o1, o2⟩ := hl hlt
        have o1 : (liftY x1 x2 x3 x4 odd % 2 == 1) = odd := o1
        have o2 : liftY x1 x2 x3 x4 odd * liftY x1 x2 x3 x4 odd % x1 = rhsN x1 x2 x3 x4 := o2
        have E5 : x5 = x4 := by simp only [x5]; rw [if_neg hn]; exact mod_M hlt
        have E7 : x7 = 0 := by simp only [x7]; rw [if_neg hn]
        have E6 : x6 = liftY x1 x2 x3 x4 odd := by
          simp only [x6]
          rw [if_neg hn]
          refine mod_M (m := P) ?_
          show liftY x1 x2 x3 x4 odd < x1
          unfold liftY
          split <;> exact lt _
        have m4 : x % M256 = x4 := rfl
        have near : ∀ v, v < x1 → v * v % x1 = rhsN x1 x2 x3 x4 → onP x1 x2 x3 (red x v false) := by
          intro v hv he
          have e : red x v false = (x4, v, false) := by
            unfold red
            rw [m4, mod_M hv]
          rw [e]
          exact ⟨fun h => (by cases h), fun _ => ⟨hlt, hv, he⟩⟩
        have yes : ((x9 % 2 == 1) == odd) = true → liftY x1 x2 x3 x4 odd = x9 := by
          intro hb
          unfold liftY
          rw [← E9, if_neg]
          rw [beq_iff_eq] at hb
          rw [hb]
          simp
        have no : ((x9 % 2 == 1) == odd) = false → liftY x1 x2 x3 x4 odd = x11 := by
          intro hb
          unfold liftY
          rw [← E9, if_pos, E11]
          rw [bne, hb]
          rfl
        clear_value x12 x11 x10 x9 x8 x7 x6 x5 x4 x3 x2 x1
        rw [E10, E12, E5, E6, E7]
        refine ⟨hA, hB, hlt, l8, fun hb => ⟨h0, l9, fun hb2 => ?_, fun hb2 => ?_⟩, fun hb => ⟨fun hb2 => ?_, fun hb2 => ?_⟩⟩
        · have e := no (by simpa using hb)
          rw [e] at o1
          rw [o1] at hb2
          simp at hb2
        · have e := no (by simpa using hb)
          rw [e] at o2 ⊢
          exact ⟨hA, hB, near _ l11 o2, rfl, ⟨rfl, rfl, rfl, trivial⟩, rfl⟩
        · rw [hb] at hb2; cases hb2
        · have e := yes (by simpa using hb)
          rw [e] at o2 ⊢
          exact ⟨hA, hB, near _ l9 o2, rfl, ⟨rfl, rfl, rfl, trivial⟩, rfl⟩
    exact h
  · exact hc.1.elim
theorem card_Secret : FnOK Try.prog 5 cSecret :=
  FnOK_A (CxOK_cons card_pickBig CxOK_nil) (iv := fun _ => []) (N := 100) Try.func5 (by kernel_rfl) (by kernel_rfl) (fun ls => by unfold secretG; split; exact bnd_one (bnd_U _); exact bnd_none) ok_Secret
theorem card_Lift : FnOK Try.prog 28 cLift :=
  FnOK_A (CxOK_cons card_be (CxOK_cons card_have (CxOK_cons card_right (CxOK_cons card_root (CxOK_cons card_hsub (CxOK_cons card_isOdd (CxOK_cons card_Cmp (CxOK_cons card_told CxOK_nil)))))))) (iv := fun _ => []) (N := 100) Try.func28 (by kernel_rfl) (by kernel_rfl) (fun ls => by
    unfold liftG
    split
    · exact bnd_two (bnd_pt (_, _, _)) (bnd_I _ _)
    · exact bnd_none) ok_Lift
end Go.Proofs.Ytbfcccoeekonlaa
end

section
/-
  Package sign: its steps.
-/
namespace Go.Proofs.Ytbfcccoeekonlaa
open Go.Sx

theorem beq_conj1 (a b : Nat) : conj [a == b] = (a == b) := by
  rw [conj_all]
  simp
theorem cmp_below {a b : Nat} : decide (cmpN a b < 0) = decide (a % M256 < b % M256) := by
  unfold cmpN
  split
  · rename_i h; rw [decide_eq_true h]; rfl
  · rename_i h
    rw [decide_eq_false h]
    split <;> rfl
theorem cmp_pos {a b : Nat} : decide (cmpN a b > 0) = decide (b % M256 < a % M256) := by
  unfold cmpN
  split
  · rename_i h; rw [decide_eq_false (show ¬ b % M256 < a % M256 by omega)]; rfl
  · split
    · rename_i h; rw [decide_eq_true h]; rfl
    · rename_i h; rw [decide_eq_false h]; rfl
theorem ok_isSecret : ∀ n d : Nat, Owes Try.prog cxSec [] 100 Try.f25 [sU n, sU d] (secG n d) := by
  intro n d
  rw [vc_isSecret]
  intro x1
  refine ⟨id, id, id, id, ?_⟩
  simp only [x1, beq_conj1, cmp_below]
  rfl
theorem ok_oRest : ∀ n a : Nat, Owes Try.prog cxORest [] 100 Try.f23 [sU n, sU a] (oRestG n a) := by
  intro n a
  rw [vc_oRest]
  exact ⟨rfl, trivial⟩
theorem ok_oMinus : ∀ n a : Nat, Owes Try.prog cxOMin [] 100 Try.f17 [sU n, sU a] (minG n a) := by
  intro n a
  rw [vc_oMinus]
  exact ⟨rfl, trivial⟩
theorem ok_oMul : ∀ n a b : Nat, Ok (noC n a b) → Owes Try.prog cxOMul [] 100 Try.f18 [sU n, sU a, sU b] (oMulG n a b) := by
  intro n a b _
  rw [vc_oMul]
  exact ⟨rfl, trivial⟩
theorem ok_ofSum : ∀ (ls : List (List At)) (vs : List (Option Addr)), Ok (ofSumC ls) → Owes Try.prog cxOfSum [] 100 Try.f19 (mkArgs [.str [.u], .str [.y 32]] ls vs) (ofSumG ls) := by
  intro ls vs hc
  unfold ofSumC at hc
  split at hc
  · rename_i n g
    have h : Owes Try.prog cxOfSum [] 100 Try.f19 [sU n, sBy 32 g] (ofSumG [[.u n], [.y 32 g]]) := by
      rw [vc_ofSum]
      exact ⟨hc.1, rfl, trivial⟩
    exact h
  · exact hc.1.elim
theorem ok_oInv : ∀ n a : Nat, Owes Try.prog cxOInv [] 100 Try.f15 [sU n, sU a] (oinvG n a) := by
  intro n a
  rw [vc_oInv]
  intro x1
  refine ⟨fun h => ?_, fun h => ?_⟩
  · have e : ¬ finvE a n = 0 := by simpa using h
    refine ⟨⟨?_, trivial⟩, ?_⟩
    · simp only [x1]; unfold oinvN; rw [if_neg e, Nat.zero_mod]
    · unfold oinvE; rw [if_neg e]
  · have e : finvE a n = 0 := by simpa using h
    refine ⟨⟨rfl, trivial⟩, ?_⟩
    unfold oinvE; rw [if_pos e]
theorem ok_oHigh : ∀ n s : Nat, Owes Try.prog cxHigh [] 100 Try.f26 [sU n, sU s] (oHighG n s) := by
  intro n s
  rw [vc_oHigh]
  exact cmp_pos
theorem ok_mayBe : ∀ (ls : List (List At)) (vs : List (Option Addr)), Ok (mayC ls) → Owes Try.prog cxMay [] 100 Try.f13 (mkArgs [.str [.u], .str pSg] ls vs) (mayG' ls) := by
  intro ls vs hc
  unfold mayC at hc
  split at hc
  · rename_i n R S o
    have h : Owes Try.prog cxMay [] 100 Try.f13 [sU n, sSg R S o] (mayG' [[.u n], [.u R, .u S, .i o]]) := by
      rw [vc_mayBe]
      exact ⟨id, id, id, id, id, id, id, id, id, id, id, id, id, id, id, rfl⟩
    exact h
  · exact hc.1.elim
theorem ok_cCheck : ∀ (ls : List (List At)) (vs : List (Option Addr)), Ok (ckC ls) → Owes Try.prog cxCk [] 100 Try.f12 (mkArgs [.str pCv] ls vs) (ckG ls) := by
  intro ls vs hc
  unfold ckC at hc
  split at hc
  · rename_i P A B N X Y F
    have h : Owes Try.prog cxCk [] 100 Try.f12 [sCv P A B N X Y F] (ckG [[.u P, .u A, .u B, .u N, .u X, .u Y, .b F]]) := by
      rw [vc_cCheck]
      exact ⟨rfl, hc.1, rfl⟩
    exact h
  · exact hc.1.elim
theorem ok_look : ∀ (ls : List (List At)) (vs : List (Option Addr)), Ok (lookC ls) → Owes Try.prog cxLook [] 100 Try.f35 (mkArgs [.str pCv, .str [.u]] ls vs) (lookG ls) := by
  intro ls vs hc
  unfold lookC at hc
  split at hc
  · rename_i P A B N X Y F d
    have h : Owes Try.prog cxLook [] 100 Try.f35 [sCv P A B N X Y F, sU d] (lookG [[.u P, .u A, .u B, .u N, .u X, .u Y, .b F], [.u d]]) := by
      rw [vc_look]
      intro x1
      refine ⟨hc.1, fun h => (by cases h), fun _ => ⟨fun h => ?_, fun h => ?_⟩⟩
      · have e : secB N d = false := by simpa using h
        simp only [x1]
        rw [if_neg (by rw [e]; exact Bool.false_ne_true)]
      · have e : secB N d = true := by simpa using h
        simp only [x1]
        rw [if_pos e]
    exact h
  · exact hc.1.elim
theorem ok_sPoint : ∀ (ls : List (List At)) (vs : List (Option Addr)), Ok (pntC ls) → Owes Try.prog cxPnt [] 100 Try.f21 (mkArgs [.str pCv, .str [.u]] ls vs) (pntG ls) := by
  intro ls vs hc
  unfold pntC at hc
  split at hc
  · rename_i P A B N X Y F d
    have h : Owes Try.prog cxPnt [] 100 Try.f21 [sCv P A B N X Y F, sU d] (pntG [[.u P, .u A, .u B, .u N, .u X, .u Y, .b F], [.u d]]) := by
      rw [vc_sPoint]
      obtain ⟨h1, h2, h3, _⟩ := hc
      intro x1 x2 x3 x4 x5 x6 x7 x8
      have E4 : x4 = 0 := if_pos h2
      rw [E4]
      exact ⟨h1, fun h => (by cases h), fun _ => ⟨h1, h1.on, h3, ⟨rfl, rfl, rfl, trivial⟩, rfl⟩⟩
    exact h
  · exact hc.1.elim
theorem ok_both : ∀ (ls : List (List At)) (vs : List (Option Addr)), Ok (bothC ls) → Owes Try.prog cxBoth [] 100 Try.f16 (mkArgs [.str pCv, .str [.u], .str pPt, .str [.u]] ls vs) (bothG ls) := by
  intro ls vs hc
  unfold bothC at hc
  split at hc
  · rename_i P A B N X Y F k x y f l
    have h : Owes Try.prog cxBoth [] 100 Try.f16 [sCv P A B N X Y F, sU k, sPt x y f, sU l] (bothG [[.u P, .u A, .u B, .u N, .u X, .u Y, .b F], [.u k], [.u x, .u y, .b f], [.u l]]) := by
      rw [vc_both]
      obtain ⟨h1, _⟩ := hc
      have r1 := red_same h1.i1.1
      have r2 := red_same h1.i2.1
      intro x1 x2 x3 x4 x5
      have r1 : red (cmulR x1 x2 x4 (red X Y F) 256).1 (cmulR x1 x2 x4 (red X Y F) 256).2.1 (cmulR x1 x2 x4 (red X Y F) 256).2.2 = cmulR x1 x2 x4 (red X Y F) 256 := r1
      have r2 : red (cmulR x1 x2 x5 (red x y f) 256).1 (cmulR x1 x2 x5 (red x y f) 256).2.1 (cmulR x1 x2 x5 (red x y f) 256).2.2 = cmulR x1 x2 x5 (red x y f) 256 := r2
      rw [r1, r2]
      exact ⟨h1.g, h1.g.on, h1.m1, h1.g, h1.p0, h1.m2, h1.g, h1.i1.2, h1.i2.2, h1.s, ⟨rfl, rfl, rfl, trivial⟩, rfl⟩
    exact h
  · exact hc.1.elim
theorem ok_Lift2 : ∀ (ls : List (List At)) (vs : List (Option Addr)), Ok (lift2C ls) → Owes Try.prog cxLift2 [] 100 Try.f28 (mkArgs [.str pCv, .str [.u], .bit] ls vs) (lift2G ls) := by
  intro ls vs hc
  unfold lift2C at hc
  split at hc
  · rename_i P A B N X Y F x odd
    have h : Owes Try.prog cxLift2 [] 100 Try.f28 [sCv P A B N X Y F, sU x, sB odd] (lift2G [[.u P, .u A, .u B, .u N, .u X, .u Y, .b F], [.u x], [.b odd]]) := by
      rw [vc_Lift2]
      obtain ⟨hg, _⟩ := hc
      have h0 := lt_pos hg.A0
      have mM := md_M h0
      have lt := fun v => Nat.mod_lt v h0
      have cg : decide (cmpN x P ≥ 0) = decide (P % M256 ≤ x % M256) := by
        rw [Bool.eq_iff_iff, decide_eq_true_eq, decide_eq_true_eq]
        exact cmp_ge
      intro x1 x2 x3 x4 x5 x6 x7 x8 x9 x10
      have cg : decide (cmpN x P ≥ 0) = decide (x1 ≤ x4) := cg
      have hg : goodP x1 x2 x3 (N % M256) (red X Y F) := hg
      have hA : x2 < x1 := hg.A0
      have hB : x3 < x1 := hg.B0
      have h0 : 0 < x1 := h0
      have E8 : x8 = rhsN x1 x2 x3 x4 := mM _
      have l8 : x8 < x1 := by rw [E8]; exact lt _
      have E9 : x9 = rhsN x1 x2 x3 x4 ^ (x1 / 4 + 1) % x1 := by simp only [x9]; rw [E8]; exact mM _
      have l9 : x9 < x1 := by rw [E9]; exact lt _
      have E10 : x10 = (0 + x1 - x9) % x1 := mM _
      have l10 : x10 < x1 := by rw [E10]; exact lt _
      have q9 : x9 * x9 % x1 % M256 = x9 * x9 % x1 := mM _
      have q10 : x10 * x10 % x1 % M256 = x10 * x10 % x1 := mM _
      have Y9 : ((x9 % 2 == 1) == odd) = true → liftY x1 x2 x3 x4 odd = x9 := by
        intro hb
        unfold liftY
        rw [← E9, if_neg]
        rw [beq_iff_eq] at hb
        rw [hb]
        simp
      have Y10 : ((x9 % 2 == 1) == odd) = false → liftY x1 x2 x3 x4 odd = x10 := by
        intro hb
        unfold liftY
        rw [← E9, if_pos, E10]
        rw [bne, hb]
        rfl
      have E5 : x5 = liftE x1 x2 x3 x4 odd := rfl
      have L5 : x4 < x1 → ∀ v, liftY x1 x2 x3 x4 odd = v → x5 = if (((v % 2 == 1) == odd) && (v * v % x1 == rhsN x1 x2 x3 x4)) = true then 0 else 16 := by
        intro hl v hv
        rw [E5]
        unfold liftE liftB
        rw [if_neg (by omega), hv]
      have N6 : x5 ≠ 0 → 0 = x6 ∧ 0 = x7 := by
        intro h
        simp only [x6, x7]
        rw [if_neg h, if_neg h]
        exact ⟨(Nat.zero_mod _).symm, (Nat.zero_mod _).symm⟩
      have m4 : x4 % M256 = x4 := Nat.mod_mod _ _
      have Z6 : x5 = 0 → ∀ v, v < x1 → liftY x1 x2 x3 x4 odd = v → x4 = x6 ∧ v = x7 := by
        intro h v hv e
        simp only [x6, x7]
        rw [if_pos h, if_pos h, m4, e]
        exact ⟨rfl, (mod_M (m := P) hv).symm⟩
      clear_value x10 x9 x8 x7 x6 x5 x4 x3 x2 x1
      rw [q9, q10, E8, beq_conj1, beq_conj1, cg]
      refine ⟨rfl, hg, fun h => ?_, fun h => ?_⟩
      · have hge : x1 ≤ x4 := of_decide_eq_true h
        have e : x5 = 6 := by rw [E5]; unfold liftE; rw [if_pos hge]
        obtain ⟨z1, z2⟩ := N6 (by rw [e]; decide)
        exact ⟨⟨z1, z2, rfl, trivial⟩, e.symm⟩
      · have hlt : x4 < x1 := Nat.lt_of_not_le (of_decide_eq_false h)
        have bad : ∀ v, liftY x1 x2 x3 x4 odd = v → (((v % 2 == 1) == odd) && (v * v % x1 == rhsN x1 x2 x3 x4)) = false → (0 = x6 ∧ 0 = x7 ∧ false = false ∧ True) ∧ (16 : Int) = x5 := by
          intro v hv hb
          have e := L5 hlt v hv
          rw [hb, if_neg Bool.false_ne_true] at e
          obtain ⟨z1, z2⟩ := N6 (by rw [e]; decide)
          exact ⟨⟨z1, z2, rfl, trivial⟩, e.symm⟩
        have good : ∀ v, v < x1 → liftY x1 x2 x3 x4 odd = v → (((v % 2 == 1) == odd) && (v * v % x1 == rhsN x1 x2 x3 x4)) = true → (x4 = x6 ∧ v = x7 ∧ false = false ∧ True) ∧ (0 : Int) = x5 := by
          intro v hl hv hb
          have e := L5 hlt v hv
          rw [hb, if_pos rfl] at e
          obtain ⟨z1, z2⟩ := Z6 e v hl hv
          exact ⟨⟨z1, z2, rfl, trivial⟩, e.symm⟩
        refine ⟨hA, hB, hlt, by rw [← E8]; exact l8, fun h1 => ⟨h0, l9, fun h2 => ?_, fun h2 => ?_⟩, fun h1 => ⟨fun h2 => ?_, fun h2 => ?_⟩⟩
        · have e := Y10 (by simpa using h1)
          have h2 : ((x10 % 2 == 1) == odd) = false := by simpa using h2
          exact ⟨l10, l10, hA, hB, hlt, fun _ => bad _ e (by rw [h2]; rfl), fun _ => bad _ e (by rw [h2]; rfl)⟩
        · have e := Y10 (by simpa using h1)
          have h2 : ((x10 % 2 == 1) == odd) = true := by simpa using h2
          refine ⟨l10, l10, hA, hB, hlt, fun h3 => bad _ e ?_, fun h3 => good _ l10 e ?_⟩
          · rw [h2, Bool.true_and]; simpa using h3
          · rw [h2, Bool.true_and]; simpa using h3
        · rw [h1] at h2; cases h2
        · have h1 : ((x9 % 2 == 1) == odd) = true := by simpa using h1
          have e := Y9 h1
          refine ⟨l9, l9, hA, hB, hlt, fun h3 => bad _ e ?_, fun h3 => good _ l9 e ?_⟩
          · rw [h1, Bool.true_and]; simpa using h3
          · rw [h1, Bool.true_and]; simpa using h3
    exact h
  · exact hc.1.elim
theorem ok_pointOf : ∀ (ls : List (List At)) (vs : List (Option Addr)), Ok (pofC ls) → Owes Try.prog cxPof [] 100 Try.f14 (mkArgs [.str pCv, .str pSg] ls vs) (pofG ls) := by
  intro ls vs hc
  unfold pofC at hc
  split at hc
  · rename_i P A B N X Y F R S o
    have h : Owes Try.prog cxPof [] 100 Try.f14 [sCv P A B N X Y F, sSg R S o] (pofG [[.u P, .u A, .u B, .u N, .u X, .u Y, .b F], [.u R, .u S, .i o]]) := by
      rw [vc_pointOf]
      obtain ⟨hg, _⟩ := hc
      intro x1 x2 x3 x4 x5 x6 x7 x8 x9 x10 x11 x12 x13 x14
      have E13 : x13 = pofE x1 x2 x3 N R o := rfl
      have N13 : x13 ≠ 0 → 0 = x11 ∧ 0 = x12 := by
        intro h
        simp only [x11, x12]
        unfold pofP
        rw [← E13, if_neg h, if_neg h]
        exact ⟨(Nat.zero_mod _).symm, (Nat.zero_mod _).symm⟩
      have bad : x13 = 10 → (0 = x11 ∧ 0 = x12 ∧ false = (pofP x1 x2 x3 N R o).2.2 ∧ True) ∧ (10 : Int) = x13 := by
        intro e
        obtain ⟨z1, z2⟩ := N13 (by rw [e]; decide)
        exact ⟨⟨z1, z2, rfl, trivial⟩, e.symm⟩
      refine ⟨fun h => ⟨hg, id, fun h => by rw [h]; rfl, fun h2 => bad ?_, fun h2 => ?_⟩, fun h => ⟨hg, fun h2 => bad ?_, fun h2 => ?_⟩⟩
      · have ho : 2 ≤ o := of_decide_eq_true h
        rw [E13]
        unfold pofE pofO pofX
        rw [decide_eq_true ho, Bool.true_and, if_pos ho]
        show (if x7 = true then (10 : Int) else if x10 = 0 then 0 else 10) = 10
        rw [Bool.or_eq_true] at h2
        rcases h2 with h2 | h2
        · rw [if_pos h2]
        · split
          · rfl
          · rw [if_neg (by simpa using h2)]
      · have ho : 2 ≤ o := of_decide_eq_true h
        rw [Bool.or_eq_false_iff] at h2
        have h10 : x10 = 0 := by simpa using h2.2
        have e : x13 = 0 := by
          rw [E13]
          unfold pofE pofO pofX
          rw [decide_eq_true ho, Bool.true_and, if_pos ho]
          show (if x7 = true then (10 : Int) else if x10 = 0 then 0 else 10) = 0
          rw [if_neg (by rw [h2.1]; exact Bool.false_ne_true), if_pos h10]
        have e12 : pofX N R o % M256 = x8 := by unfold pofX; rw [if_pos ho]
        refine ⟨⟨?_, ?_, rfl, trivial⟩, e.symm⟩
        · simp only [x11]
          unfold pofP
          rw [if_pos h10, ← E13, if_pos e, e12]
        · simp only [x12]
          unfold pofP
          rw [if_pos h10, ← E13, if_pos e, if_pos e, e12]
      · have ho : ¬ 2 ≤ o := of_decide_eq_false h
        rw [E13]
        unfold pofE pofO pofX
        rw [decide_eq_false ho, Bool.false_and, if_neg Bool.false_ne_true, if_neg ho]
        show (if x14 = 0 then (0 : Int) else 10) = 10
        rw [if_neg (by simpa using h2)]
      · have ho : ¬ 2 ≤ o := of_decide_eq_false h
        have h10 : x14 = 0 := by simpa using h2
        have e : x13 = 0 := by
          rw [E13]
          unfold pofE pofO pofX
          rw [decide_eq_false ho, Bool.false_and, if_neg Bool.false_ne_true, if_neg ho]
          show (if x14 = 0 then (0 : Int) else 10) = 0
          rw [if_pos h10]
        have e12 : pofX N R o % M256 = x5 := by unfold pofX; rw [if_neg ho]
        refine ⟨⟨?_, ?_, rfl, trivial⟩, e.symm⟩
        · simp only [x11]
          unfold pofP
          rw [if_pos h10, ← E13, if_pos e, e12]
        · simp only [x12]
          unfold pofP
          rw [if_pos h10, ← E13, if_pos e, if_pos e, e12]
    exact h
  · exact hc.1.elim
theorem bnd_pof (P A B N R : Nat) (o : Int) : SA.bnd none0 (ptS (pofP P A B N R o)) := bnd_pt _
theorem card_isSecret : FnOK Try.prog 25 (specUU secG) :=
  FnOK_UU (CxOK_cons card_Cmp CxOK_nil) (iv := []) (N := 100) Try.func25 (by kernel_rfl) (by kernel_rfl) (fun _ _ => bnd_one (bnd_B _)) ok_isSecret
theorem card_oRest : FnOK Try.prog 23 (specUU oRestG) :=
  FnOK_UU (CxOK_cons card_DivMod CxOK_nil) (iv := []) (N := 100) Try.func23 (by kernel_rfl) (by kernel_rfl) (fun _ _ => bnd_one (bnd_U _)) ok_oRest
theorem card_oMinus : FnOK Try.prog 17 (specUU minG) :=
  FnOK_UU (CxOK_cons card_fSub CxOK_nil) (iv := []) (N := 100) Try.func17 (by kernel_rfl) (by kernel_rfl) (fun _ _ => bnd_one (bnd_U _)) ok_oMinus
theorem card_oMul : FnOK Try.prog 18 (specUUU noC oMulG) :=
  FnOK_UUU (CxOK_cons card_fMul CxOK_nil) (iv := fun _ _ _ => []) (N := 100) Try.func18 (by kernel_rfl) (by kernel_rfl) (fun _ _ _ => bnd_one (bnd_U _)) ok_oMul
theorem card_ofSum : FnOK Try.prog 19 cOfSum :=
  FnOK_A (CxOK_cons card_From (CxOK_cons card_oRest CxOK_nil)) (iv := fun _ => []) (N := 100) Try.func19 (by kernel_rfl) (by kernel_rfl) (fun ls => by unfold ofSumG; split; exact bnd_one (bnd_U _); exact bnd_none) ok_ofSum
theorem card_oInv : FnOK Try.prog 15 (specUU oinvG) :=
  FnOK_UU (CxOK_cons card_fInv CxOK_nil) (iv := []) (N := 100) Try.func15 (by kernel_rfl) (by kernel_rfl) (fun _ _ => bnd_two (bnd_U _) (bnd_I _ _)) ok_oInv
theorem card_oHigh : FnOK Try.prog 26 (specUU oHighG) :=
  FnOK_UU (CxOK_cons card_oMinus (CxOK_cons card_Cmp CxOK_nil)) (iv := []) (N := 100) Try.func26 (by kernel_rfl) (by kernel_rfl) (fun _ _ => bnd_one (bnd_B _)) ok_oHigh
theorem card_mayBe : FnOK Try.prog 13 cMay :=
  FnOK_A (CxOK_cons card_isSecret (CxOK_cons card_oHigh CxOK_nil)) (iv := fun _ => []) (N := 100) Try.func13 (by kernel_rfl) (by kernel_rfl) (fun ls => by unfold mayG'; split; exact bnd_one (bnd_B _); exact bnd_none) ok_mayBe
theorem card_cCheck : FnOK Try.prog 12 cCk :=
  FnOK_A (CxOK_cons card_be CxOK_nil) (iv := fun _ => []) (N := 100) Try.func12 (by kernel_rfl) (by kernel_rfl) (fun ls => by unfold ckG; split; exact bnd_one (bnd_I _ _); exact bnd_none) ok_cCheck
theorem card_look : FnOK Try.prog 35 cLook :=
  FnOK_A (CxOK_cons card_cCheck (CxOK_cons card_isSecret CxOK_nil)) (iv := fun _ => []) (N := 100) Try.func35 (by kernel_rfl) (by kernel_rfl) (fun ls => by unfold lookG; split; exact bnd_one (bnd_I _ _); exact bnd_none) ok_look
theorem card_sPoint : FnOK Try.prog 21 cPnt :=
  FnOK_A (CxOK_cons card_look (CxOK_cons card_cMult CxOK_nil)) (iv := fun _ => []) (N := 100) Try.func21 (by kernel_rfl) (by kernel_rfl) (fun ls => by
    unfold pntG
    split
    · exact bnd_two (bnd_pt _) (bnd_I _ _)
    · exact bnd_none) ok_sPoint
theorem card_both : FnOK Try.prog 16 cBoth :=
  FnOK_A (CxOK_cons card_cMult (CxOK_cons card_cAdd CxOK_nil)) (iv := fun _ => []) (N := 100) Try.func16 (by kernel_rfl) (by kernel_rfl) (fun ls => by
    unfold bothG
    split
    · exact bnd_two (bnd_pt _) (bnd_I _ _)
    · exact bnd_none) ok_both
theorem card_Lift2 : FnOK Try.prog 28 cLift2 :=
  FnOK_A (CxOK_cons card_be (CxOK_cons card_right (CxOK_cons card_root (CxOK_cons card_hsub (CxOK_cons card_hmul (CxOK_cons card_isOdd (CxOK_cons card_Cmp CxOK_nil))))))) (iv := fun _ => []) (N := 100) Try.func28 (by kernel_rfl) (by kernel_rfl) (fun ls => by
    unfold lift2G
    split
    · exact bnd_two (bnd_pt (_, _, _)) (bnd_I _ _)
    · exact bnd_none) ok_Lift2
theorem card_pointOf : FnOK Try.prog 14 cPof :=
  FnOK_A (CxOK_cons card_Add (CxOK_cons card_Lift2 CxOK_nil)) (iv := fun _ => []) (N := 100) Try.func14 (by kernel_rfl) (by kernel_rfl) (fun ls => by
    unfold pofG
    split
    · exact bnd_two (bnd_pt (_, _, _)) (bnd_I _ _)
    · exact bnd_none) ok_pointOf
end Go.Proofs.Ytbfcccoeekonlaa
end

section
/-
  A number is its bytes: the numbers' side.
-/
namespace Go.Proofs.Ytbfcccoeekonlaa
open Go.Sx

theorem ok_word : ∀ k a b s, i64ok k → i64ok a → i64ok b → Owes Try.prog Cx.none [] 400 Try.f20 [sRaw k a b s] (wordG k a b s) := by
  intro k a b s _ _ _
  rw [vc_word]
  exact ⟨rfl, rfl, rfl, rfl, rfl, rfl, rfl, rfl, rfl, rfl, rfl, rfl, rfl, rfl, rfl, rfl, rfl, rfl, rfl, rfl, rfl, rfl, rfl, rfl, rfl, rfl, rfl, rfl, rfl, rfl, rfl, rfl, trivial⟩
theorem card_word : FnOK Try.prog 20 (specRaw wordG) :=
  FnOK_Raw CxOK_nil (iv := []) (N := 400) Try.func20 (by kernel_rfl) (by kernel_rfl) (fun k a b s => by unfold wordG; intro k hk; simp only [List.mem_singleton] at hk; subst hk; trivial) ok_word

theorem by8_ok (a i : Nat) : 0 ≤ by8 a i ∧ by8 a i < 256 := by
  unfold by8
  have : a / 2 ^ (8 * i) % 256 < 256 := Nat.mod_lt _ (by decide)
  omega
theorem pow_256 (n : Nat) : 2 ^ (8 * n) = 256 ^ n := by rw [Nat.pow_mul]
theorem fromN_bytes (a : Nat) : ∀ n, n ≤ 32 → fromN (fun j => by8 a (31 - j)) n = a % 256 ^ n
  | 0, _ => by simp [fromN, Nat.mod_one]
  | n + 1, h => by
    rw [fromN, fromN_bytes a n (by omega), Nat.mod_pow_succ]
    have : 31 - (31 - n) = n := by omega
    rw [this, by8, Int.toNat_natCast, pow_256]
theorem M256_pow : M256 = 256 ^ 32 := by rw [M256_eq]
theorem from_bytes (a : Nat) : (fromN (fun j => by8 a (31 - j)) 32 % M256 == a % M256) = true := by
  rw [beq_iff_eq, fromN_bytes a 32 (Nat.le_refl _), ← M256_pow, Nat.mod_mod]

theorem fromN_lt (g : Nat → Int) (h : byteOK 32 g) : ∀ n, n ≤ 32 → fromN g n < 256 ^ n
  | 0, _ => by simp [fromN]
  | n + 1, hn => by
    have ih := fromN_lt g h n (by omega)
    have hb := h (31 - n) (by omega)
    rw [fromN, Nat.pow_succ]
    have : (g (31 - n)).toNat ≤ 255 := by omega
    have h2 := Nat.mul_le_mul_left (256 ^ n) this
    omega
theorem fromN_byte (g : Nat → Int) (h : byteOK 32 g) (k : Nat) : ∀ n, n ≤ 32 → k < n → fromN g n / 256 ^ k % 256 = (g (31 - k)).toNat
  | 0, _, hk => by omega
  | n + 1, hn, hk => by
    rw [fromN]
    have hp : 0 < 256 ^ k := Nat.pow_pos (by decide)
    rcases Nat.lt_or_ge k n with hlt | hge
    · have ih := fromN_byte g h k n (by omega) hlt
      obtain ⟨d, rfl⟩ : ∃ d, n = k + 1 + d := ⟨n - (k + 1), by omega⟩
      have e : 256 ^ (k + 1 + d) * (g (31 - (k + 1 + d))).toNat = 256 ^ k * (256 * (256 ^ d * (g (31 - (k + 1 + d))).toNat)) := by
        rw [Nat.pow_add, Nat.pow_add, Nat.pow_one, Nat.mul_assoc, Nat.mul_assoc]
      rw [e, Nat.add_mul_div_left _ _ hp, Nat.add_mul_mod_self_left]
      exact ih
    · have : k = n := by omega
      subst this
      have hlt := fromN_lt g h k (by omega)
      have hb := h (31 - k) (by omega)
      rw [Nat.add_mul_div_left _ _ hp, Nat.div_eq_of_lt hlt, Nat.zero_add]
      exact Nat.mod_eq_of_lt (by omega)
theorem bytes_from (g : Nat → Int) (h : byteOK 32 g) : ((List.range 32).all fun j => by8 (fromN g 32) (31 - j) == g j) = true := by
  rw [List.all_eq_true]
  intro j hj
  have hj := List.mem_range.1 hj
  rw [beq_iff_eq, by8, pow_256, fromN_byte g h (31 - j) 32 (Nat.le_refl _) (by omega)]
  have : 31 - (31 - j) = j := by omega
  rw [this]
  exact Int.toNat_of_nonneg (h j hj).1

theorem push_all : ∀ (l : List Int) (b : ByteArray), (l.foldl (fun r n => r.push (UInt8.ofNat n.toNat)) b).data.toList = b.data.toList ++ l.map fun n => UInt8.ofNat n.toNat
  | [], b => by simp
  | n :: l, b => by
    rw [List.foldl_cons, push_all l]
    simp
theorem bytesI_toList (l : List Int) : (bytesI l).toList = l.map fun n => UInt8.ofNat n.toNat := by
  rw [ByteArray.toList_eq, bytesI, push_all]
  rfl
def rowB (a n : Nat) : List UInt8 := (List.range n).map fun j => UInt8.ofNat (by8 a (n - 1 - j)).toNat
theorem rowB_succ (a n : Nat) : rowB a (n + 1) = UInt8.ofNat (by8 a n).toNat :: rowB a n := by
  unfold rowB
  rw [List.range_succ_eq_map, List.map_cons, List.map_map]
  congr 1
  apply List.map_congr_left
  intro j _
  simp only [Function.comp_apply]
  rw [show n + 1 - 1 - (j + 1) = n - 1 - j by omega]
theorem less_rows (a b : Nat) : ∀ n, Op.bytesLess (rowB a n) (rowB b n) = decide (a % 256 ^ n < b % 256 ^ n)
  | 0 => by simp [rowB, Op.bytesLess, Nat.mod_one]
  | n + 1 => by
    rw [rowB_succ, rowB_succ, Op.bytesLess, less_rows a b n, Nat.mod_pow_succ, Nat.mod_pow_succ]
    have ha : a / 256 ^ n % 256 < 256 := Nat.mod_lt _ (by decide)
    have hb : b / 256 ^ n % 256 < 256 := Nat.mod_lt _ (by decide)
    have hp : 0 < 256 ^ n := Nat.pow_pos (by decide)
    have la := Nat.mod_lt a hp
    have lb := Nat.mod_lt b hp
    unfold by8
    rw [pow_256, Int.toNat_natCast, Int.toNat_natCast]
    generalize a / 256 ^ n % 256 = x at *
    generalize b / 256 ^ n % 256 = y at *
    generalize a % 256 ^ n = u at *
    generalize b % 256 ^ n = v at *
    generalize 256 ^ n = p at *
    have ex : (UInt8.ofNat x).toNat = x := by rw [UInt8.toNat_ofNat']; exact Nat.mod_eq_of_lt ha
    have ey : (UInt8.ofNat y).toNat = y := by rw [UInt8.toNat_ofNat']; exact Nat.mod_eq_of_lt hb
    rw [Bool.eq_iff_iff]
    simp only [Bool.or_eq_true, Bool.and_eq_true, decide_eq_true_eq, beq_iff_eq, UInt8.lt_iff_toNat_lt, ← UInt8.toNat_inj, ex, ey]
    rcases Nat.lt_trichotomy x y with h | h | h
    · have := Nat.mul_le_mul_left p (show x + 1 ≤ y by omega)
      rw [Nat.mul_add, Nat.mul_one] at this
      exact ⟨fun _ => by omega, fun _ => .inl h⟩
    · subst h
      simp
    · have := Nat.mul_le_mul_left p (show y + 1 ≤ x by omega)
      rw [Nat.mul_add, Nat.mul_one] at this
      exact ⟨fun k => by rcases k with k | k <;> omega, fun k => by omega⟩
theorem cmp_neg (a b : Nat) : decide (cmpN a b < 0) = decide (a % M256 < b % M256) := by
  unfold cmpN
  generalize a % M256 = A
  generalize b % M256 = B
  by_cases h : A < B
  · rw [if_pos h]; simp [h]
  · rw [if_neg h]
    by_cases h' : B < A
    · rw [if_pos h']; simp [h]
    · rw [if_neg h']; simp [h]
theorem row32 (a : Nat) : (bytesI (intsL [SK.f IntKind.u8 32 fun j => by8 a (31 - j)])).toList = rowB a 32 := by
  rw [bytesI_toList]
  simp only [intsL, List.append_nil, List.map_map]
  rfl
theorem less_bytes (a b : Nat) : (Op.bytesLess (bytesI (intsL [SK.f IntKind.u8 32 fun j => by8 a (31 - j)])).toList (bytesI (intsL [SK.f IntKind.u8 32 fun j => by8 b (31 - j)])).toList == decide (cmpN a b < 0)) = true := by
  rw [row32, row32, less_rows, cmp_neg, ← M256_pow, beq_iff_eq]
theorem u8_range (n : Int) : 0 ≤ IntKind.u8.wrap n ∧ IntKind.u8.wrap n < 256 := by
  unfold IntKind.wrap
  simp [IntKind.signed, IntKind.bits]
  omega
theorem word_ok (a b : Int) (s : ByteArray) : byteOK 32 fun j => if j = 31 then IntKind.u8.wrap b else if j = 30 then IntKind.u8.wrap a else if j < s.size then ((s.data.getD j 0).toNat : Int) else 0 := by
  intro j _
  have hb := u8_range b
  have ha := u8_range a
  have hs := (s.data.getD j 0).toNat_lt
  simp only
  split
  · exact hb
  · split
    · exact ha
    · split
      · omega
      · decide

end Go.Proofs.Ytbfcccoeekonlaa
end

section
/-
  Package sign: checking and recovering; sums of things; RecoverRight: reckoned by the kernel. (Laid by program.)
-/
namespace Go.Proofs.Ytbfcccoeekonlaa
open Go.Sx
set_option maxRecDepth 100000
def recQ (P A B N : Nat) (b : Pt) (g : Nat → Int) (R S : Nat) (o : Int) : Pt :=
  bothP P A b (minN N (mulN N (restN N (fromN g 32)) (oinvN N R)) % M256) (red (pofP P A B N R o).1 (pofP P A B N R o).2.1 (pofP P A B N R o).2.2) (mulN N S (oinvN N R) % M256)
def recE (P A B N : Nat) (b : Pt) (g : Nat → Int) (R S : Nat) (o : Int) : Int :=
  if mayB N R S o = true then if pofE P A B N R o = 0 then if oinvE N R = 0 then if (recQ P A B N b g R S o).2.2 = true then 10 else 0 else 16 else 10 else 10
def recA (P A B N : Nat) (b : Pt) (g : Nat → Int) (R S : Nat) (o : Int) : Pt := if recE P A B N b g R S o = 0 then recQ P A B N b g R S o else (0, 0, false)
structure recOK (P A B N : Nat) (b : Pt) (g : Nat → Int) (R S : Nat) (o : Int) : Prop where
  good : goodP P A B (N % M256) b
  b32 : byteOK 32 g
  both : mayB N R S o = true → pofE P A B N R o = 0 → oinvE N R = 0 ∧ bothOK P A B (N % M256) b (minN N (mulN N (restN N (fromN g 32)) (oinvN N R)) % M256) (red (pofP P A B N R o).1 (pofP P A B N R o).2.1 (pofP P A B N R o).2.2) (mulN N S (oinvN N R) % M256)
def recC : List (List At) → List Prop
  | [[.u P, .u A, .u B, .u N, .u X, .u Y, .b F], [.y 32 g], [.u R, .u S, .i o]] => [recOK (P % M256) (A % M256) (B % M256) N (red X Y F) g R S o]
  | _ => [False]
def recG : List (List At) → SV
  | [[.u P, .u A, .u B, .u N, .u X, .u Y, .b F], [.y 32 g], [.u R, .u S, .i o]] => .tup [ptS (recA (P % M256) (A % M256) (B % M256) N (red X Y F) g R S o), sI .i64 (recE (P % M256) (A % M256) (B % M256) N (red X Y F) g R S o)]
  | _ => .tup []
def chkQ (P A N : Nat) (b : Pt) (q : Pt) (g : Nat → Int) (R S : Nat) : Pt :=
  bothP P A b (mulN N (restN N (fromN g 32)) (oinvN N S) % M256) q (mulN N R (oinvN N S) % M256)
def chkE (P A N : Nat) (b : Pt) (q : Pt) (g : Nat → Int) (R S : Nat) (o : Int) : Int :=
  if (q.2.2 || !mayB N R S o) = true then 10 else if oinvE N S = 0 then if ((chkQ P A N b q g R S).2.2 || !(restN N (chkQ P A N b q g R S).1 % M256 == R % M256)) = true then 10 else 0 else 16
structure chkOK (P A B N : Nat) (b : Pt) (q : Pt) (g : Nat → Int) (R S : Nat) (o : Int) : Prop where
  good : goodP P A B (N % M256) b
  on : onP P A B q
  b32 : byteOK 32 g
  both : q.2.2 = false → mayB N R S o = true → oinvE N S = 0 ∧ bothOK P A B (N % M256) b (mulN N (restN N (fromN g 32)) (oinvN N S) % M256) q (mulN N R (oinvN N S) % M256)
def chkC : List (List At) → List Prop
  | [[.u P, .u A, .u B, .u N, .u X, .u Y, .b F], [.u x, .u y, .b f], [.y 32 g], [.u R, .u S, .i o]] => [chkOK (P % M256) (A % M256) (B % M256) N (red X Y F) (red x y f) g R S o]
  | _ => [False]
def chkG : List (List At) → SV
  | [[.u P, .u A, .u _, .u N, .u X, .u Y, .b F], [.u x, .u y, .b f], [.y 32 g], [.u R, .u S, .i o]] => .one (sI .i64 (chkE (P % M256) (A % M256) N (red X Y F) (red x y f) g R S o))
  | _ => .tup []
def cRec : FSpec := specA [.str pCv, .str [.y 32], .str pSg] recC recG
def cChk : FSpec := specA [.str pCv, .str pPt, .str [.y 32], .str pSg] chkC chkG
def cxRec : Cx := [(12, cCk), (13, cMay), (14, cPof), (15, specUU oinvG), (19, cOfSum), (18, specUUU noC oMulG), (17, specUU minG), (16, cBoth)]
def cxChk : Cx := [(22, cOnS'), (13, cMay), (23, specUU oRestG), (15, specUU oinvG), (19, cOfSum), (18, specUUU noC oMulG), (16, cBoth)]
def cxSumR : Cx := [(20, specRaw wordG)]
def zero32 : List SK := List.replicate 32 (.c (.num .u8 0))
def invSumR (k a b : Int) (s : ByteArray) (f : Nat → Int) : Inv where
  X := Nat
  tm i := slotsAt 30 [(1, .one (.sc (.ptr 0 0))), (2, .one (.sc (.ptr 1 0))), (3, .one (.sc (.ptr 2 0))), (7, .one (sI .i64 i))]
  ob i := [.cells 23 [.c (.val (.int .i64 k)), .c (.val (.int .i64 a)), .c (.val (.int .i64 b)), .c (.val (.string s))] 0, .cells 39 zero32 0, .cells 39 [.f .u8 32 (fun j => if j < i then f j else wordF a b s j)] 0]
  holds i := i ≤ 32
  less i := 32 - i
def cxSTells : Cx := [(4, specA [.int .i64] curveC curveG), (21, cPnt)]
def cSumR (f : Int → Int → ByteArray → Nat → Int) : FSpec := specRaw fun _ a b s => .one (sBy 32 (f a b s))
def cxRR (f : Int → Int → ByteArray → Nat → Int) : Cx := [(4, specA [.int .i64] curveC curveG), (6, cPick), (5, cSecret), (8, cSumR f), (9, spec0 yes), (7, cRec), (10, cChk)]
-- VC vc_Recover HASH aa40bff66cc8cf58
theorem vc_Recover (P A B N X Y R S : Nat) (F : Bool) (o : Int) (g : Nat → Int) :
    Owes Try.prog cxRec [] 100 Try.f7 [sCv P A B N X Y F, sBy 32 g, sSg R S o] (recG [[.u P, .u A, .u B, .u N, .u X, .u Y, .b F], [.y 32 g], [.u R, .u S, .i o]]) =
    (let x1 : Nat := P % Go.Sx.M256; let x2 : Nat := A % Go.Sx.M256; let x3 : Nat := B % Go.Sx.M256; let x4 : Nat := N % Go.Sx.M256; let x5 : Nat := (Go.Proofs.Ytbfcccoeekonlaa.recA x1 x2 x3 N (Go.Proofs.Ytbfcccoeekonlaa.red X Y F) g R S o).fst % Go.Sx.M256; let x6 : Nat := (Go.Proofs.Ytbfcccoeekonlaa.recA x1 x2 x3 N (Go.Proofs.Ytbfcccoeekonlaa.red X Y F) g R S o).snd.fst % Go.Sx.M256; let x7 : Bool := (Go.Proofs.Ytbfcccoeekonlaa.recA x1 x2 x3 N (Go.Proofs.Ytbfcccoeekonlaa.red X Y F) g R S o).snd.snd; let x8 : Int := Go.Proofs.Ytbfcccoeekonlaa.recE x1 x2 x3 N (Go.Proofs.Ytbfcccoeekonlaa.red X Y F) g R S o; let x9 : Int := Go.Proofs.Ytbfcccoeekonlaa.pofE x1 x2 x3 N R o; let x10 : Nat := Go.Proofs.Ytbfcccoeekonlaa.mulN N S (Go.Proofs.Ytbfcccoeekonlaa.oinvN N R) % Go.Sx.M256; let x11 : Bool := (0 : Int) == (0 : Int); let x12 : Bool := (Go.Proofs.Ytbfcccoeekonlaa.bothP x1 x2 (Go.Proofs.Ytbfcccoeekonlaa.red X Y F) (Go.Proofs.Ytbfcccoeekonlaa.minN N (Go.Proofs.Ytbfcccoeekonlaa.mulN N (Go.Proofs.Ytbfcccoeekonlaa.restN N (Go.Sx.fromN g (32 : Nat))) (Go.Proofs.Ytbfcccoeekonlaa.oinvN N R)) % Go.Sx.M256) (Go.Proofs.Ytbfcccoeekonlaa.red (Go.Proofs.Ytbfcccoeekonlaa.pofP x1 x2 x3 N R o).fst (Go.Proofs.Ytbfcccoeekonlaa.pofP x1 x2 x3 N R o).snd.fst (Go.Proofs.Ytbfcccoeekonlaa.pofP x1 x2 x3 N R o).snd.snd) x10).snd.snd; Go.Proofs.Ytbfcccoeekonlaa.goodP x1 x2 x3 x4 (Go.Proofs.Ytbfcccoeekonlaa.red X Y F) ∧ (((0 : Int) != (0 : Int)) = Bool.true → ((0 : Nat) = x5 ∧ (0 : Nat) = x6 ∧ Bool.false = x7 ∧ True) ∧ (0 : Int) = x8) ∧ (((0 : Int) != (0 : Int)) = Bool.false → ((!Go.Proofs.Ytbfcccoeekonlaa.mayB N R S o) = Bool.true → ((0 : Nat) = x5 ∧ (0 : Nat) = x6 ∧ Bool.false = x7 ∧ True) ∧ (10 : Int) = x8) ∧ ((!Go.Proofs.Ytbfcccoeekonlaa.mayB N R S o) = Bool.false → Go.Proofs.Ytbfcccoeekonlaa.goodP x1 x2 x3 x4 (Go.Proofs.Ytbfcccoeekonlaa.red X Y F) ∧ ((x9 != (0 : Int)) = Bool.true → ((0 : Nat) = x5 ∧ (0 : Nat) = x6 ∧ Bool.false = x7 ∧ True) ∧ x9 = x8) ∧ ((x9 != (0 : Int)) = Bool.false → ((Go.Proofs.Ytbfcccoeekonlaa.oinvE N R != (0 : Int)) = Bool.true → ((0 : Nat) = x5 ∧ (0 : Nat) = x6 ∧ Bool.false = x7 ∧ True) ∧ Go.Proofs.Ytbfcccoeekonlaa.oinvE N R = x8) ∧ ((Go.Proofs.Ytbfcccoeekonlaa.oinvE N R != (0 : Int)) = Bool.false → (∀ (j : Nat), j < (32 : Nat) → (0 : Int) ≤ g j ∧ g j < (256 : Int)) ∧ Go.Proofs.Ytbfcccoeekonlaa.bothOK x1 x2 x3 x4 (Go.Proofs.Ytbfcccoeekonlaa.red X Y F) (Go.Proofs.Ytbfcccoeekonlaa.minN N (Go.Proofs.Ytbfcccoeekonlaa.mulN N (Go.Proofs.Ytbfcccoeekonlaa.restN N (Go.Sx.fromN (Go.Sx.selG [Go.Sx.SK.f Go.IntKind.u8 (32 : Nat) g]) (32 : Nat))) (Go.Proofs.Ytbfcccoeekonlaa.oinvN N R)) % Go.Sx.M256) (Go.Proofs.Ytbfcccoeekonlaa.red (Go.Proofs.Ytbfcccoeekonlaa.pofP x1 x2 x3 N R o).fst (Go.Proofs.Ytbfcccoeekonlaa.pofP x1 x2 x3 N R o).snd.fst (Go.Proofs.Ytbfcccoeekonlaa.pofP x1 x2 x3 N R o).snd.snd) x10 ∧ (x11 = Bool.true → x11 = Bool.true) ∧ (x11 = Bool.true → x11 = Bool.true) ∧ ((x11 && x12) = Bool.true → ((0 : Nat) = x5 ∧ (0 : Nat) = x6 ∧ Bool.false = x7 ∧ True) ∧ (10 : Int) = x8) ∧ ((x11 && x12) = Bool.false → ((Go.Proofs.Ytbfcccoeekonlaa.bothP x1 x2 (Go.Proofs.Ytbfcccoeekonlaa.red X Y F) (Go.Proofs.Ytbfcccoeekonlaa.minN N (Go.Proofs.Ytbfcccoeekonlaa.mulN N (Go.Proofs.Ytbfcccoeekonlaa.restN N (Go.Sx.fromN g (32 : Nat))) (Go.Proofs.Ytbfcccoeekonlaa.oinvN N R)) % Go.Sx.M256) (Go.Proofs.Ytbfcccoeekonlaa.red (Go.Proofs.Ytbfcccoeekonlaa.pofP x1 x2 x3 N R o).fst (Go.Proofs.Ytbfcccoeekonlaa.pofP x1 x2 x3 N R o).snd.fst (Go.Proofs.Ytbfcccoeekonlaa.pofP x1 x2 x3 N R o).snd.snd) x10).fst % Go.Sx.M256 = x5 ∧ (Go.Proofs.Ytbfcccoeekonlaa.bothP x1 x2 (Go.Proofs.Ytbfcccoeekonlaa.red X Y F) (Go.Proofs.Ytbfcccoeekonlaa.minN N (Go.Proofs.Ytbfcccoeekonlaa.mulN N (Go.Proofs.Ytbfcccoeekonlaa.restN N (Go.Sx.fromN g (32 : Nat))) (Go.Proofs.Ytbfcccoeekonlaa.oinvN N R)) % Go.Sx.M256) (Go.Proofs.Ytbfcccoeekonlaa.red (Go.Proofs.Ytbfcccoeekonlaa.pofP x1 x2 x3 N R o).fst (Go.Proofs.Ytbfcccoeekonlaa.pofP x1 x2 x3 N R o).snd.fst (Go.Proofs.Ytbfcccoeekonlaa.pofP x1 x2 x3 N R o).snd.snd) x10).snd.fst % Go.Sx.M256 = x6 ∧ x12 = x7 ∧ True) ∧ (0 : Int) = x8)))))) := by kernel_rfl
-- END VC
-- VC vc_Check HASH 3afdac37ec312c0b
theorem vc_Check (P A B N X Y x y R S : Nat) (F f : Bool) (o : Int) (g : Nat → Int) :
    Owes Try.prog cxChk [] 100 Try.f10 [sCv P A B N X Y F, sPt x y f, sBy 32 g, sSg R S o] (chkG [[.u P, .u A, .u B, .u N, .u X, .u Y, .b F], [.u x, .u y, .b f], [.y 32 g], [.u R, .u S, .i o]]) =
    (let x1 : Nat := P % Go.Sx.M256; let x2 : Nat := A % Go.Sx.M256; let x3 : Nat := B % Go.Sx.M256; let x4 : Nat := N % Go.Sx.M256; let x5 : Nat := x % Go.Sx.M256; let x6 : Nat := y % Go.Sx.M256; let x7 : Int := Go.Proofs.Ytbfcccoeekonlaa.onE x1 x2 x3 (Go.Proofs.Ytbfcccoeekonlaa.red x y f); let x8 : Int := Go.Proofs.Ytbfcccoeekonlaa.chkE x1 x2 N (Go.Proofs.Ytbfcccoeekonlaa.red X Y F) (Go.Proofs.Ytbfcccoeekonlaa.red x y f) g R S o; let x9 : Nat := Go.Proofs.Ytbfcccoeekonlaa.mulN N R (Go.Proofs.Ytbfcccoeekonlaa.oinvN N S) % Go.Sx.M256; let x10 : Bool := (Go.Proofs.Ytbfcccoeekonlaa.bothP x1 x2 (Go.Proofs.Ytbfcccoeekonlaa.red X Y F) (Go.Proofs.Ytbfcccoeekonlaa.mulN N (Go.Proofs.Ytbfcccoeekonlaa.restN N (Go.Sx.fromN g (32 : Nat))) (Go.Proofs.Ytbfcccoeekonlaa.oinvN N S) % Go.Sx.M256) (Go.Proofs.Ytbfcccoeekonlaa.red x y f) x9).snd.snd; Go.Proofs.Ytbfcccoeekonlaa.goodP x1 x2 x3 x4 (Go.Proofs.Ytbfcccoeekonlaa.red X Y F) ∧ (f = Bool.true → x5 = (0 : Nat) ∧ x6 = (0 : Nat)) ∧ (f = Bool.false → x5 < x1 ∧ x6 < x1) ∧ ((x7 != (0 : Int)) = Bool.true → x7 = x8) ∧ ((x7 != (0 : Int)) = Bool.false → ((!f) = Bool.true → (!f) = Bool.true) ∧ ((!f) = Bool.true → (!f) = Bool.true) ∧ ((!f) = Bool.true → (!f) = Bool.true) ∧ (f = Bool.false → (!f) = Bool.true) ∧ ((f || !Go.Proofs.Ytbfcccoeekonlaa.mayB N R S o) = Bool.true → (10 : Int) = x8) ∧ ((f || !Go.Proofs.Ytbfcccoeekonlaa.mayB N R S o) = Bool.false → ((Go.Proofs.Ytbfcccoeekonlaa.oinvE N S != (0 : Int)) = Bool.true → Go.Proofs.Ytbfcccoeekonlaa.oinvE N S = x8) ∧ ((Go.Proofs.Ytbfcccoeekonlaa.oinvE N S != (0 : Int)) = Bool.false → (∀ (j : Nat), j < (32 : Nat) → (0 : Int) ≤ g j ∧ g j < (256 : Int)) ∧ Go.Proofs.Ytbfcccoeekonlaa.bothOK x1 x2 x3 x4 (Go.Proofs.Ytbfcccoeekonlaa.red X Y F) (Go.Proofs.Ytbfcccoeekonlaa.mulN N (Go.Proofs.Ytbfcccoeekonlaa.restN N (Go.Sx.fromN (Go.Sx.selG [Go.Sx.SK.f Go.IntKind.u8 (32 : Nat) g]) (32 : Nat))) (Go.Proofs.Ytbfcccoeekonlaa.oinvN N S) % Go.Sx.M256) (Go.Proofs.Ytbfcccoeekonlaa.red x y f) x9 ∧ (((0 : Int) != (0 : Int)) = Bool.true → (0 : Int) = x8) ∧ (((0 : Int) != (0 : Int)) = Bool.false → ((!x10) = Bool.true → (!x10) = Bool.true) ∧ ((!x10) = Bool.true → (!x10) = Bool.true) ∧ ((!x10) = Bool.true → (!x10) = Bool.true) ∧ ((!x10) = Bool.true → (!x10) = Bool.true) ∧ ((!x10) = Bool.true → (!x10) = Bool.true) ∧ ((!x10) = Bool.true → (!x10) = Bool.true) ∧ (x10 = Bool.false → (!x10) = Bool.true) ∧ ((x10 || !Go.Sx.conj [Go.Proofs.Ytbfcccoeekonlaa.restN N (Go.Proofs.Ytbfcccoeekonlaa.bothP x1 x2 (Go.Proofs.Ytbfcccoeekonlaa.red X Y F) (Go.Proofs.Ytbfcccoeekonlaa.mulN N (Go.Proofs.Ytbfcccoeekonlaa.restN N (Go.Sx.fromN g (32 : Nat))) (Go.Proofs.Ytbfcccoeekonlaa.oinvN N S) % Go.Sx.M256) (Go.Proofs.Ytbfcccoeekonlaa.red x y f) x9).fst % Go.Sx.M256 == R % Go.Sx.M256]) = Bool.true → (10 : Int) = x8) ∧ ((x10 || !Go.Sx.conj [Go.Proofs.Ytbfcccoeekonlaa.restN N (Go.Proofs.Ytbfcccoeekonlaa.bothP x1 x2 (Go.Proofs.Ytbfcccoeekonlaa.red X Y F) (Go.Proofs.Ytbfcccoeekonlaa.mulN N (Go.Proofs.Ytbfcccoeekonlaa.restN N (Go.Sx.fromN g (32 : Nat))) (Go.Proofs.Ytbfcccoeekonlaa.oinvN N S) % Go.Sx.M256) (Go.Proofs.Ytbfcccoeekonlaa.red x y f) x9).fst % Go.Sx.M256 == R % Go.Sx.M256]) = Bool.false → (0 : Int) = x8)))))) := by kernel_rfl
-- END VC
-- VC vc_sumR HASH 0d31c6d4e13485eb
theorem vc_sumR (k a b : Int) (s : ByteArray) (f : Nat → Int) :
    Owes Try.prog cxSumR [(3, .inv (invSumR k a b s f))] 100 Try.f8 [sRaw k a b s] (.one (sBy 32 f)) =
    (((-9223372036854775808 : Int) ≤ k ∧ k ≤ (9223372036854775807 : Int)) ∧ ((-9223372036854775808 : Int) ≤ a ∧ a ≤ (9223372036854775807 : Int)) ∧ ((-9223372036854775808 : Int) ≤ b ∧ b ≤ (9223372036854775807 : Int)) ∧ (∀ (y : Nat), Go.Sx.closedB (Go.Sx.slotsAt (30 : Nat) [((1 : Nat), Go.Sx.SV.one (Go.Sx.SA.sc (Go.Sx.SC.ptr (0 : Nat) (0 : Nat)))), ((2 : Nat), Go.Sx.SV.one (Go.Sx.SA.sc (Go.Sx.SC.ptr (1 : Nat) (0 : Nat)))), ((3 : Nat), Go.Sx.SV.one (Go.Sx.SA.sc (Go.Sx.SC.ptr (2 : Nat) (0 : Nat)))), ((7 : Nat), Go.Sx.SV.one (Go.Sx.sI Go.IntKind.i64 (↑y : Int)))]) [Go.Sx.SO.cells (23 : Go.TypeId) [Go.Sx.SK.c (Go.Sx.SC.val (Go.Value.int Go.IntKind.i64 k)), Go.Sx.SK.c (Go.Sx.SC.val (Go.Value.int Go.IntKind.i64 a)), Go.Sx.SK.c (Go.Sx.SC.val (Go.Value.int Go.IntKind.i64 b)), Go.Sx.SK.c (Go.Sx.SC.val (Go.Value.string s))] (0 : Nat), Go.Sx.SO.cells (39 : Go.TypeId) Go.Proofs.Ytbfcccoeekonlaa.zero32 (0 : Nat), Go.Sx.SO.cells (39 : Go.TypeId) [Go.Sx.SK.f Go.IntKind.u8 (32 : Nat) fun (j : Nat) => if j < y then f j else Go.Proofs.Ytbfcccoeekonlaa.wordF a b s j] (0 : Nat)] = Bool.true) ∧ ∃ (y : Nat), y ≤ (32 : Nat) ∧ (0 : Int) = (↑y : Int) ∧ k = k ∧ a = a ∧ b = b ∧ s = s ∧ (0 : Nat) = (0 : Nat) ∧ (0 : Nat) = (0 : Nat) ∧ ((∀ (j : Nat), j < (32 : Nat) → Go.Proofs.Ytbfcccoeekonlaa.wordF a b s j = if j < y then f j else Go.Proofs.Ytbfcccoeekonlaa.wordF a b s j) ∧ True) ∧ (0 : Nat) = (0 : Nat) ∧ ∀ (y : Nat), y ≤ (32 : Nat) → (Decidable.decide ((↑y : Int) < (32 : Int)) = Bool.true → ((0 : Int) ≤ (↑y : Int) ∧ (↑y : Int) < (32 : Int)) ∧ ((0 : Int) ≤ (↑y : Int) ∧ (↑y : Int) < (32 : Int)) ∧ (0 : Int) ≤ Go.IntKind.i64.wrap ((↑y : Int).tmod (7 : Int) * (8 : Int)) ∧ ((0 : Int) ≤ (↑y : Int) ∧ (↑y : Int) < (32 : Int)) ∧ ((0 : Int) ≤ (↑y : Int) ∧ (↑y : Int) < (32 : Int)) ∧ ∃ (y' : Nat), y' ≤ (32 : Nat) ∧ Go.IntKind.i64.wrap ((↑y : Int) + (1 : Int)) = (↑y' : Int) ∧ k = k ∧ a = a ∧ b = b ∧ s = s ∧ (0 : Nat) = (0 : Nat) ∧ (0 : Nat) = (0 : Nat) ∧ ((∀ (j : Nat), j < (32 : Nat) → (if j = (↑y : Int).toNat then Go.IntKind.u8.wrap (↑(BitVec.ofInt (8 : Nat) (if (↑y : Int).toNat < y then f (↑y : Int).toNat else Go.Proofs.Ytbfcccoeekonlaa.wordF a b s (↑y : Int).toNat) ^^^ BitVec.ofInt (8 : Nat) (Go.IntKind.u8.wrap (Go.IntKind.u8.wrap (a.fdiv ((2 : Int) ^ Min.min (Go.IntKind.i64.wrap ((↑y : Int).tmod (7 : Int) * (8 : Int))).toNat (64 : Nat))) + Go.IntKind.u8.wrap (Go.IntKind.i64.wrap ((↑y : Int) * b))))).toNat : Int) else if j < y then f j else Go.Proofs.Ytbfcccoeekonlaa.wordF a b s j) = if j < y' then f j else Go.Proofs.Ytbfcccoeekonlaa.wordF a b s j) ∧ True) ∧ (0 : Nat) = (0 : Nat) ∧ (32 : Nat) - y' < (32 : Nat) - y) ∧ (Decidable.decide ((↑y : Int) < (32 : Int)) = Bool.false → (∀ (j : Nat), j < (32 : Nat) → (if j < y then f j else Go.Proofs.Ytbfcccoeekonlaa.wordF a b s j) = f j) ∧ True)) := by kernel_rfl
-- END VC
-- VC vc_sTells HASH 0b625792dac4bc6e
theorem vc_sTells  :
    Owes Try.prog cxSTells [] 100 Try.f9 [] yes =
    (let x1 : Bool := (0 : Int) == (0 : Int); ((-9223372036854775808 : Int) ≤ (0 : Int) ∧ (0 : Int) ≤ (9223372036854775807 : Int)) ∧ Go.Proofs.Ytbfcccoeekonlaa.goodP (43 : Nat) (0 : Nat) (7 : Nat) (31 : Nat) (Go.Proofs.Ytbfcccoeekonlaa.red (2 : Nat) (12 : Nat) Bool.false) ∧ Go.Proofs.Ytbfcccoeekonlaa.secB (31 : Nat) (1 : Nat) = Bool.true ∧ Go.Proofs.Ytbfcccoeekonlaa.mulOK (43 : Nat) (0 : Nat) (1 : Nat) (Go.Proofs.Ytbfcccoeekonlaa.red (2 : Nat) (12 : Nat) Bool.false) ∧ (x1 = Bool.true → x1 = Bool.true) ∧ (x1 = Bool.true → x1 = Bool.true) ∧ (x1 = Bool.true → x1 = Bool.true) ∧ (x1 = Bool.true → x1 = Bool.true) ∧ (x1 && Go.Sx.conj [(2 : Nat) == (2 : Nat), (12 : Nat) == (12 : Nat), (Go.Proofs.Ytbfcccoeekonlaa.cmulR (43 : Nat) (0 : Nat) (1 : Nat) (Go.Proofs.Ytbfcccoeekonlaa.red (2 : Nat) (12 : Nat) Bool.false) (256 : Nat)).snd.snd == Bool.false]) = Bool.true) := by kernel_rfl
-- END VC
-- VC vc_RecoverRight HASH fc03057003ff86b0
theorem vc_RecoverRight (fs : Int → Int → ByteArray → Nat → Int) (n : Int) (k a b : Int) (s : ByteArray) (i j o : Int) :
    Owes Try.prog (cxRR fs) [] 100 Try.f3 [sI .i64 n, sRaw k a b s, sI .i64 i, sI .i64 j, sI .i64 o] yes =
    (let x1 : Nat := Go.Proofs.Ytbfcccoeekonlaa.cP (Go.Proofs.Ytbfcccoeekonlaa.ixN n) % Go.Sx.M256; let x2 : Nat := Go.Proofs.Ytbfcccoeekonlaa.ixP x1; let x3 : Int := Go.IntKind.i64.wrap ((Go.IntKind.i64.wrap (Go.Sx.limb (Go.Proofs.Ytbfcccoeekonlaa.cN (Go.Proofs.Ytbfcccoeekonlaa.ixN n)) (0 : Nat))).tdiv (2 : Int)); let x4 : Int := Go.IntKind.u64.wrap ((1 : Int) + Go.IntKind.u64.wrap (j % x3)); let x5 : Nat := Go.Proofs.Ytbfcccoeekonlaa.cB (Go.Proofs.Ytbfcccoeekonlaa.ixN n) % Go.Sx.M256; let x6 : Nat := (1 : Nat) + (i % ((↑(Go.Proofs.Ytbfcccoeekonlaa.cN x2) : Int) - (1 : Int))).toNat; let x7 : Nat := Go.Sx.join x4 (0 : Int) (0 : Int) (0 : Int); let x8 : Int := o % (5 : Int); let x9 : Int := Go.Proofs.Ytbfcccoeekonlaa.recE x1 (0 : Nat) x5 (Go.Proofs.Ytbfcccoeekonlaa.cN (Go.Proofs.Ytbfcccoeekonlaa.ixN n)) (Go.Proofs.Ytbfcccoeekonlaa.red (Go.Proofs.Ytbfcccoeekonlaa.cX (Go.Proofs.Ytbfcccoeekonlaa.ixN n)) (Go.Proofs.Ytbfcccoeekonlaa.cY (Go.Proofs.Ytbfcccoeekonlaa.ixN n)) Bool.false) (fs a b s) x6 x7 x8; ((-9223372036854775808 : Int) ≤ n ∧ n ≤ (9223372036854775807 : Int)) ∧ Go.Proofs.Ytbfcccoeekonlaa.isCv x2 (Go.Proofs.Ytbfcccoeekonlaa.cP (Go.Proofs.Ytbfcccoeekonlaa.ixN n)) (0 : Nat) (Go.Proofs.Ytbfcccoeekonlaa.cB (Go.Proofs.Ytbfcccoeekonlaa.ixN n)) (Go.Proofs.Ytbfcccoeekonlaa.cN (Go.Proofs.Ytbfcccoeekonlaa.ixN n)) (Go.Proofs.Ytbfcccoeekonlaa.cX (Go.Proofs.Ytbfcccoeekonlaa.ixN n)) (Go.Proofs.Ytbfcccoeekonlaa.cY (Go.Proofs.Ytbfcccoeekonlaa.ixN n)) Bool.false ∧ ((-9223372036854775808 : Int) ≤ i ∧ i ≤ (9223372036854775807 : Int)) ∧ ((-9223372036854775808 : Int) ≤ j ∧ j ≤ (9223372036854775807 : Int)) ∧ ((0 : Int) < x3 ∧ x3 ≤ (1048576 : Int)) ∧ ((-9223372036854775808 : Int) ≤ o ∧ o ≤ (9223372036854775807 : Int)) ∧ ((0 : Int) < (5 : Int) ∧ (5 : Int) ≤ (1048576 : Int)) ∧ ((-9223372036854775808 : Int) ≤ k ∧ k ≤ (9223372036854775807 : Int)) ∧ ((-9223372036854775808 : Int) ≤ a ∧ a ≤ (9223372036854775807 : Int)) ∧ ((-9223372036854775808 : Int) ≤ b ∧ b ≤ (9223372036854775807 : Int)) ∧ ((0 : Int) ≤ x4 ∧ x4 < (18446744073709551616 : Int)) ∧ ((0 : Int) ≤ (0 : Int) ∧ (0 : Int) < (18446744073709551616 : Int)) ∧ ((0 : Int) ≤ (0 : Int) ∧ (0 : Int) < (18446744073709551616 : Int)) ∧ ((0 : Int) ≤ (0 : Int) ∧ (0 : Int) < (18446744073709551616 : Int)) ∧ Go.Proofs.Ytbfcccoeekonlaa.recOK x1 (0 : Nat) x5 (Go.Proofs.Ytbfcccoeekonlaa.cN (Go.Proofs.Ytbfcccoeekonlaa.ixN n)) (Go.Proofs.Ytbfcccoeekonlaa.red (Go.Proofs.Ytbfcccoeekonlaa.cX (Go.Proofs.Ytbfcccoeekonlaa.ixN n)) (Go.Proofs.Ytbfcccoeekonlaa.cY (Go.Proofs.Ytbfcccoeekonlaa.ixN n)) Bool.false) (Go.Sx.selG [Go.Sx.SK.f Go.IntKind.u8 (32 : Nat) (fs a b s)]) x6 x7 x8 ∧ ((x9 != (0 : Int)) = Bool.true → (Bool.true = Bool.true → Bool.true = Bool.true) ∧ (Bool.true = Bool.true → Bool.true = Bool.true) ∧ (Bool.true && x9 == (10 : Int)) = Bool.true) ∧ ((x9 != (0 : Int)) = Bool.false → (Bool.true = Bool.true → Bool.true = Bool.true) ∧ (Bool.true = Bool.true → (-9223372036854775808 : Int) ≤ k ∧ k ≤ (9223372036854775807 : Int)) ∧ (Bool.true = Bool.true → (-9223372036854775808 : Int) ≤ a ∧ a ≤ (9223372036854775807 : Int)) ∧ (Bool.true = Bool.true → (-9223372036854775808 : Int) ≤ b ∧ b ≤ (9223372036854775807 : Int)) ∧ (Bool.true = Bool.true → Bool.true = Bool.true) ∧ (Bool.true = Bool.true → Bool.true = Bool.true) ∧ (Bool.true = Bool.true → Bool.true = Bool.true) ∧ (Bool.true = Bool.true → Bool.true = Bool.true) ∧ (Bool.true = Bool.true → (0 : Int) ≤ x4 ∧ x4 < (18446744073709551616 : Int)) ∧ (Bool.true = Bool.true → (0 : Int) ≤ (0 : Int) ∧ (0 : Int) < (18446744073709551616 : Int)) ∧ (Bool.true = Bool.true → (0 : Int) ≤ (0 : Int) ∧ (0 : Int) < (18446744073709551616 : Int)) ∧ (Bool.true = Bool.true → (0 : Int) ≤ (0 : Int) ∧ (0 : Int) < (18446744073709551616 : Int)) ∧ (Bool.true = Bool.true → Go.Proofs.Ytbfcccoeekonlaa.chkOK x1 (0 : Nat) x5 (Go.Proofs.Ytbfcccoeekonlaa.cN (Go.Proofs.Ytbfcccoeekonlaa.ixN n)) (Go.Proofs.Ytbfcccoeekonlaa.red (Go.Proofs.Ytbfcccoeekonlaa.cX (Go.Proofs.Ytbfcccoeekonlaa.ixN n)) (Go.Proofs.Ytbfcccoeekonlaa.cY (Go.Proofs.Ytbfcccoeekonlaa.ixN n)) Bool.false) (Go.Proofs.Ytbfcccoeekonlaa.red (Go.Proofs.Ytbfcccoeekonlaa.recA x1 (0 : Nat) x5 (Go.Proofs.Ytbfcccoeekonlaa.cN (Go.Proofs.Ytbfcccoeekonlaa.ixN n)) (Go.Proofs.Ytbfcccoeekonlaa.red (Go.Proofs.Ytbfcccoeekonlaa.cX (Go.Proofs.Ytbfcccoeekonlaa.ixN n)) (Go.Proofs.Ytbfcccoeekonlaa.cY (Go.Proofs.Ytbfcccoeekonlaa.ixN n)) Bool.false) (Go.Sx.selG [Go.Sx.SK.f Go.IntKind.u8 (32 : Nat) (fs a b s)]) x6 x7 x8).fst (Go.Proofs.Ytbfcccoeekonlaa.recA x1 (0 : Nat) x5 (Go.Proofs.Ytbfcccoeekonlaa.cN (Go.Proofs.Ytbfcccoeekonlaa.ixN n)) (Go.Proofs.Ytbfcccoeekonlaa.red (Go.Proofs.Ytbfcccoeekonlaa.cX (Go.Proofs.Ytbfcccoeekonlaa.ixN n)) (Go.Proofs.Ytbfcccoeekonlaa.cY (Go.Proofs.Ytbfcccoeekonlaa.ixN n)) Bool.false) (Go.Sx.selG [Go.Sx.SK.f Go.IntKind.u8 (32 : Nat) (fs a b s)]) x6 x7 x8).snd.fst (Go.Proofs.Ytbfcccoeekonlaa.recA x1 (0 : Nat) x5 (Go.Proofs.Ytbfcccoeekonlaa.cN (Go.Proofs.Ytbfcccoeekonlaa.ixN n)) (Go.Proofs.Ytbfcccoeekonlaa.red (Go.Proofs.Ytbfcccoeekonlaa.cX (Go.Proofs.Ytbfcccoeekonlaa.ixN n)) (Go.Proofs.Ytbfcccoeekonlaa.cY (Go.Proofs.Ytbfcccoeekonlaa.ixN n)) Bool.false) (Go.Sx.selG [Go.Sx.SK.f Go.IntKind.u8 (32 : Nat) (fs a b s)]) x6 x7 x8).snd.snd) (Go.Sx.selG [Go.Sx.SK.f Go.IntKind.u8 (32 : Nat) (fs a b s)]) x6 x7 x8) ∧ (Bool.true = Bool.true → Bool.true = Bool.true) ∧ (Bool.true = Bool.true → Bool.true = Bool.true) ∧ (Bool.true && Go.Proofs.Ytbfcccoeekonlaa.chkE x1 (0 : Nat) (Go.Proofs.Ytbfcccoeekonlaa.cN (Go.Proofs.Ytbfcccoeekonlaa.ixN n)) (Go.Proofs.Ytbfcccoeekonlaa.red (Go.Proofs.Ytbfcccoeekonlaa.cX (Go.Proofs.Ytbfcccoeekonlaa.ixN n)) (Go.Proofs.Ytbfcccoeekonlaa.cY (Go.Proofs.Ytbfcccoeekonlaa.ixN n)) Bool.false) (Go.Proofs.Ytbfcccoeekonlaa.red (Go.Proofs.Ytbfcccoeekonlaa.recA x1 (0 : Nat) x5 (Go.Proofs.Ytbfcccoeekonlaa.cN (Go.Proofs.Ytbfcccoeekonlaa.ixN n)) (Go.Proofs.Ytbfcccoeekonlaa.red (Go.Proofs.Ytbfcccoeekonlaa.cX (Go.Proofs.Ytbfcccoeekonlaa.ixN n)) (Go.Proofs.Ytbfcccoeekonlaa.cY (Go.Proofs.Ytbfcccoeekonlaa.ixN n)) Bool.false) (fs a b s) x6 x7 x8).fst (Go.Proofs.Ytbfcccoeekonlaa.recA x1 (0 : Nat) x5 (Go.Proofs.Ytbfcccoeekonlaa.cN (Go.Proofs.Ytbfcccoeekonlaa.ixN n)) (Go.Proofs.Ytbfcccoeekonlaa.red (Go.Proofs.Ytbfcccoeekonlaa.cX (Go.Proofs.Ytbfcccoeekonlaa.ixN n)) (Go.Proofs.Ytbfcccoeekonlaa.cY (Go.Proofs.Ytbfcccoeekonlaa.ixN n)) Bool.false) (fs a b s) x6 x7 x8).snd.fst (Go.Proofs.Ytbfcccoeekonlaa.recA x1 (0 : Nat) x5 (Go.Proofs.Ytbfcccoeekonlaa.cN (Go.Proofs.Ytbfcccoeekonlaa.ixN n)) (Go.Proofs.Ytbfcccoeekonlaa.red (Go.Proofs.Ytbfcccoeekonlaa.cX (Go.Proofs.Ytbfcccoeekonlaa.ixN n)) (Go.Proofs.Ytbfcccoeekonlaa.cY (Go.Proofs.Ytbfcccoeekonlaa.ixN n)) Bool.false) (fs a b s) x6 x7 x8).snd.snd) (fs a b s) x6 x7 x8 == (0 : Int)) = Bool.true)) := by kernel_rfl
-- END VC

end Go.Proofs.Ytbfcccoeekonlaa
end

section
/-
  Laws on small curves: reckoned by the kernel. (Laid by program.)
-/
namespace Go.Proofs.Ytbfcccoeekonlaa
open Go.Sx
set_option maxRecDepth 100000
def cCurve : FSpec := specA [.int .i64] curveC curveG
end Go.Proofs.Ytbfcccoeekonlaa
end

section
/-
  Laws of small curves.
-/
namespace Go.Proofs.Ytbfcccoeekonlaa
open Go.Sx

theorem cx_facts {I : Nat} (hi : I < 8) : cP I % M256 = cP I ∧ cB I % M256 = cB I ∧ cN I % M256 = cN I ∧ red (cX I) (cY I) false = ptOf I 1 ∧ ixP (cP I) = I ∧ isCv I (cP I) 0 (cB I) (cN I) (cX I) (cY I) false ∧ goodP (cP I) 0 (cB I) (cN I) (ptOf I 1) := by
  obtain ⟨r1, r2⟩ := cP_range hi
  obtain ⟨n1, n2⟩ := cN_range hi
  have hg := good_all hi
  have hB := hg.B0
  have hxy : cX I < 1000 ∧ cY I < 1000 := by
    have : ∀ i : Fin 8, cX i.val < 1000 ∧ cY i.val < 1000 := by decide
    exact this ⟨I, hi⟩
  have mP := small_mod (v := cP I) (by omega)
  have mB := small_mod (v := cB I) (by omega)
  have mN := small_mod (v := cN I) (by omega)
  have mX := small_mod (v := cX I) (by omega)
  have mY := small_mod (v := cY I) (by omega)
  have e : red (cX I) (cY I) false = ptOf I 1 := by
    unfold red
    rw [mX, mY, base_pt hi]
  refine ⟨mP, mB, mN, e, ixP_of hi, ⟨hi, mP, Nat.zero_mod _, mB, mN, mX, mY, rfl⟩, ?_⟩
  rw [base_pt hi] at hg
  exact hg
theorem red_pt {I a : Nat} (hi : I < 8) (ha : a < cN I) : red (ptOf I a).1 (ptOf I a).2.1 (ptOf I a).2.2 = ptOf I a := red_same (inM_pt hi ha)
/-- A number's rest, as a place. -/
theorem rest_nat (I : Nat) (hi : I < 8) (i : Int) : (i % ((cN I : Nat) : Int)).toNat < cN I := by
  obtain ⟨n1, _⟩ := cN_range hi
  have m1 := Int.emod_nonneg i (show ((cN I : Nat) : Int) ≠ 0 by omega)
  have m2 := Int.emod_lt_of_pos i (show (0 : Int) < ((cN I : Nat) : Int) by omega)
  omega
theorem onE_pt {I a : Nat} (hi : I < 8) (ha : a < cN I) : onE (cP I) 0 (cB I) (ptOf I a) = 0 := by
  have h := onP_pt hi ha
  unfold onE
  split
  · rfl
  · rename_i hf
    have hf : (ptOf I a).2.2 = false := by simpa using hf
    rw [if_pos (h.near hf).2.2]
theorem same_pt (p : Pt) : conj [p.1 % M256 == p.1 % M256, p.2.1 % M256 == p.2.1 % M256, p.2.2 == p.2.2] = true := by
  simp [conj_all]
end Go.Proofs.Ytbfcccoeekonlaa
end

section
/-
  Laws of small curves: opposites, the order, lifting.
-/
namespace Go.Proofs.Ytbfcccoeekonlaa
open Go.Sx

theorem far_conj (I : Nat) : conj [(ptOf I 0).1 % M256 == 0, (ptOf I 0).2.1 % M256 == 0, (ptOf I 0).2.2 == true] = true := by
  rw [pt_zero]
  simp [conj_all]
theorem neg_pt {I a : Nat} (hi : I < 8) (h1 : 1 ≤ a) (ha : a < cN I) : (ptOf I (cN I - a)).1 = (ptOf I a).1 ∧ (ptOf I (cN I - a)).2.1 = cP I - (ptOf I a).2.1 ∧ (ptOf I (cN I - a)).2.2 = false ∧ (ptOf I a).2.2 = false ∧ 0 < (ptOf I a).2.1 ∧ (ptOf I a).2.1 < cP I ∧ (ptOf I a).1 < cP I := by
  have F := one_of hi h1 ha
  rw [pt_pos I h1, pt_pos I (show 1 ≤ cN I - a by omega)]
  exact ⟨F.nx, F.ny, rfl, rfl, F.y0, F.ly, F.lx⟩
theorem wrap_N {I : Nat} (hi : I < 8) : IntKind.u64.wrap (limb (cN I) 0 - 1) = ((cN I - 1 : Nat) : Int) ∧ join ((cN I - 1 : Nat) : Int) 0 0 0 % M256 = cN I - 1 := by
  obtain ⟨n1, n2⟩ := cN_range hi
  have e : IntKind.u64.wrap (limb (cN I) 0 - 1) = ((cN I - 1 : Nat) : Int) := by
    rw [limb_small (by omega), wrap_id (by omega)]
    omega
  refine ⟨e, ?_⟩
  rw [join_one (by omega), Int.toNat_natCast]
/-- A number picked from one on. -/
theorem pick_one {I : Nat} (hi : I < 8) (i : Int) : IntKind.i64.wrap (IntKind.i64.wrap (limb (cN I) 0) - 1) = ((cN I : Nat) : Int) - 1 ∧ ∃ a : Nat, 1 ≤ a ∧ a < cN I ∧ IntKind.i64.wrap (1 + i % (((cN I : Nat) : Int) - 1)) = (a : Int) ∧ ((a : Int) % ((cN I : Nat) : Int)).toNat = a ∧ 1 + (i % (((cN I : Nat) : Int) - 1)).toNat = a := by
  obtain ⟨n1, n2⟩ := cN_range hi
  have m1 := Int.emod_nonneg i (show ((cN I : Nat) : Int) - 1 ≠ 0 by omega)
  have m2 := Int.emod_lt_of_pos i (show (0 : Int) < ((cN I : Nat) : Int) - 1 by omega)
  refine ⟨?_, (1 + i % (((cN I : Nat) : Int) - 1)).toNat, by omega, by omega, ?_, ?_, by omega⟩
  · rw [limb_small (by omega), IntWalk.i64_in ((cN I : Nat) : Int) (by omega), IntWalk.i64_in _ (by omega)]
  · rw [IntWalk.i64_in _ (by omega)]
    omega
  · rw [Int.emod_eq_of_lt (by omega) (by omega), Int.toNat_natCast]
theorem lift_pt {I a : Nat} (hi : I < 8) (h1 : 1 ≤ a) (ha : a < cN I) : liftY (cP I) 0 (cB I) (ptOf I a).1 ((ptOf I a).2.1 % 2 == 1) = (ptOf I a).2.1 := by
  have F := one_of hi h1 ha
  obtain ⟨p1, p2⟩ := cP_range hi
  have h4 := (good_all hi).P4
  rw [pt_pos I h1]
  have rt := F.rt
  have ly := F.ly
  have y0 := F.y0
  generalize (tabOf I).getD a (0, 0) = q at *
  obtain ⟨x, y⟩ := q
  dsimp only at *
  unfold liftY
  rcases rt with e | e
  · rw [e, if_neg (by simp)]
  · rw [e, if_pos]
    · rw [Nat.zero_add, Nat.sub_sub_self (Nat.le_of_lt ly), Nat.mod_eq_of_lt ly]
    · rw [bne_iff_ne]
      intro h
      rw [Bool.eq_iff_iff, beq_iff_eq, beq_iff_eq] at h
      omega
end Go.Proofs.Ytbfcccoeekonlaa
end
