/-
  Texts: V13, V14, V6, V4, P1, P2, P3, P4, P5, P6, P7, Lift, C1, C2.
-/
import Derived.Test.YtbfcccoeekonlaaGreatDoorM1
import Derived.Test.YtbfcccoeekonlaaGreatDoorM2
import Derived.Test.YtbfcccoeekonlaaGreatDoorM3
import Derived.Test.YtbfcccoeekonlaaGreatDoorM4
import Derived.Test.YtbfcccoeekonlaaGreatDoorM5
import Derived.Test.YtbfcccoeekonlaaGreatDoorM6
import Derived.Test.YtbfcccoeekonlaaGreatDoorM7
import Derived.Test.YtbfcccoeekonlaaGreatDoorM8
import Derived.Lib.Mul64
import Derived.ProofKit
import Derived.OpenShut
section
/-
  Package curve: hands: reckoned by the kernel. (Laid by program.)
-/
namespace Go.Proofs.YtbfcccoeekonlaaGreatDoor
open Go.Sx
set_option maxRecDepth 100000
abbrev shH1 : List AP := [.hand, .str [.u]]
abbrev shH2 : List AP := [.hand, .str [.u], .str [.u]]
abbrev sHand (m : Nat) (v : Option Addr) : SA := .agg [.u m, .c (.val (.pointer v))]
def keptC : List (List At) → List Prop
  | [[.u _], [.u _], [.i e]] => [e = 0]
  | _ => [False]
def keptG : List (List At) → SV
  | [[.u _], [.u a], [.i _]] => .one (sU a)
  | _ => .tup []
def h2C : List (List At) → List Prop
  | [[.u m], [.u a], [.u b]] => [a % M256 < m % M256, b % M256 < m % M256]
  | _ => [False]
def h1C : List (List At) → List Prop
  | [[.u m], [.u a]] => [a % M256 < m % M256]
  | _ => [False]
def hdivC : List (List At) → List Prop
  | [[.u m], [.u a], [.u b]] => [a % M256 < m % M256, b % M256 < m % M256, Nat.gcd (b % M256) (m % M256) = 1]
  | _ => [False]
def haddG : List (List At) → SV
  | [[.u m], [.u a], [.u b]] => .one (sU ((a % M256 + b % M256) % (m % M256)))
  | _ => .tup []
def hsubG : List (List At) → SV
  | [[.u m], [.u a], [.u b]] => .one (sU ((a % M256 + m % M256 - b % M256) % (m % M256)))
  | _ => .tup []
def hmulG : List (List At) → SV
  | [[.u m], [.u a], [.u b]] => .one (sU (a % M256 * (b % M256) % (m % M256)))
  | _ => .tup []
def hdivG : List (List At) → SV
  | [[.u m], [.u a], [.u b]] => .one (sU (a % M256 * invN (b % M256) (m % M256) % (m % M256)))
  | _ => .tup []
def htwiceG : List (List At) → SV
  | [[.u m], [.u a]] => .one (sU ((a % M256 + a % M256) % (m % M256)))
  | _ => .tup []
def hthriceG : List (List At) → SV
  | [[.u m], [.u a]] => .one (sU ((a % M256 + (a % M256 + a % M256) % (m % M256)) % (m % M256)))
  | _ => .tup []
def hrootG : List (List At) → SV
  | [[.u m], [.u a]] => .one (sU ((a % M256) ^ (m % M256 / 4 + 1) % (m % M256)))
  | _ => .tup []
def cKept : FSpec := specA [.hand, .str [.u], .int .i64] keptC keptG
def cHadd : FSpec := specA shH2 h2C haddG
def cHsub : FSpec := specA shH2 h2C hsubG
def cHmul : FSpec := specA shH2 h2C hmulG
def cHdiv : FSpec := specA shH2 hdivC hdivG
def cTwice : FSpec := specA shH1 h1C htwiceG
def cThrice : FSpec := specA shH1 h1C hthriceG
def cRoot : FSpec := specA shH1 h1C hrootG
def cxHadd : Cx := [(72, specUUU noC faddG), (86, cKept)]
def cxHsub : Cx := [(54, specUUU noC fsubG), (86, cKept)]
def cxHmul : Cx := [(55, specUUU noC fmulG), (86, cKept)]
def cxHdiv : Cx := [(52, specUU finvG), (86, cKept), (63, cHmul)]
def cxTwice : Cx := [(65, cHadd)]
def cxThrice : Cx := [(65, cHadd), (84, cTwice)]
def cxRoot : Cx := [(16, specUU dmG), (50, specUU addG), (93, specUUU noC fpowG), (86, cKept)]
-- VC vc_kept HASH 3e4b98832f16c661
theorem vc_kept (m a : Nat) (e : Int) (v : Option Addr) :
    Owes Tryz.prog Cx.none [] 100 Tryz.f86 [sHand m v, sU a, sI .i64 e] (keptG [[.u m], [.u a], [.i e]]) =
    (let x1 : Nat := a % Go.Sx.M256; ((!e == (0 : Int)) = Bool.true → Go.Sx.Stuck { dst := Option.some (8 : Nat), op := Go.Op.nilCheck (Go.Operand.tmp (7 : Nat)), type := (0 : Nat), pos := "hand.go:19", after := #[{ on := (1 : Nat), ground := Go.Ground.data }, { on := (0 : Nat), ground := Go.Ground.phase }, { on := (1 : Nat), ground := Go.Ground.phase }], guard := Option.none }) ∧ ((!e == (0 : Int)) = Bool.false → x1 = x1 ∧ True)) := by kernel_rfl
-- END VC
-- VC vc_hadd HASH 8153c6ad2572595a
theorem vc_hadd (m a b : Nat) (v : Option Addr) :
    Owes Tryz.prog cxHadd [] 100 Tryz.f65 [sHand m v, sU a, sU b] (haddG [[.u m], [.u a], [.u b]]) =
    (let x1 : Nat := (a % Go.Sx.M256 + b % Go.Sx.M256) % (m % Go.Sx.M256); fE a b m = (0 : Int) ∧ (if fE a b m = (0 : Int) then x1 else (0 : Nat)) % Go.Sx.M256 = x1 % Go.Sx.M256 ∧ True) := by kernel_rfl
-- END VC
-- VC vc_hsub HASH 70646fafcbdf2cdd
theorem vc_hsub (m a b : Nat) (v : Option Addr) :
    Owes Tryz.prog cxHsub [] 100 Tryz.f67 [sHand m v, sU a, sU b] (hsubG [[.u m], [.u a], [.u b]]) =
    (let x1 : Nat := m % Go.Sx.M256; let x2 : Nat := (a % Go.Sx.M256 + x1 - b % Go.Sx.M256) % x1; fE a b m = (0 : Int) ∧ (if fE a b m = (0 : Int) then x2 else (0 : Nat)) % Go.Sx.M256 = x2 % Go.Sx.M256 ∧ True) := by kernel_rfl
-- END VC
-- VC vc_hmul HASH e72e041cdec4ccbc
theorem vc_hmul (m a b : Nat) (v : Option Addr) :
    Owes Tryz.prog cxHmul [] 100 Tryz.f63 [sHand m v, sU a, sU b] (hmulG [[.u m], [.u a], [.u b]]) =
    (let x1 : Nat := a % Go.Sx.M256 * (b % Go.Sx.M256) % (m % Go.Sx.M256); fE a b m = (0 : Int) ∧ (if fE a b m = (0 : Int) then x1 else (0 : Nat)) % Go.Sx.M256 = x1 % Go.Sx.M256 ∧ True) := by kernel_rfl
-- END VC
-- VC vc_hdiv HASH a76823f540f55690
theorem vc_hdiv (m a b : Nat) (v : Option Addr) :
    Owes Tryz.prog cxHdiv [] 100 Tryz.f87 [sHand m v, sU a, sU b] (hdivG [[.u m], [.u a], [.u b]]) =
    (let x1 : Nat := a % Go.Sx.M256; let x2 : Nat := m % Go.Sx.M256; let x3 : Nat := invN (b % Go.Sx.M256) x2; let x4 : Nat := (if finvE b m = (0 : Int) then x3 else (0 : Nat)) % Go.Sx.M256; finvE b m = (0 : Int) ∧ x1 < x2 ∧ x4 < x2 ∧ x1 * x4 % x2 % Go.Sx.M256 = x1 * x3 % x2 % Go.Sx.M256 ∧ True) := by kernel_rfl
-- END VC
-- VC vc_twice HASH 6cb39db844b7e4b6
theorem vc_twice (m a : Nat) (v : Option Addr) :
    Owes Tryz.prog cxTwice [] 100 Tryz.f84 [sHand m v, sU a] (htwiceG [[.u m], [.u a]]) =
    (let x1 : Nat := a % Go.Sx.M256; let x2 : Nat := m % Go.Sx.M256; let x3 : Nat := (x1 + x1) % x2 % Go.Sx.M256; x1 < x2 ∧ x1 < x2 ∧ x3 = x3 ∧ True) := by kernel_rfl
-- END VC
-- VC vc_thrice HASH def012398cdf2bed
theorem vc_thrice (m a : Nat) (v : Option Addr) :
    Owes Tryz.prog cxThrice [] 100 Tryz.f85 [sHand m v, sU a] (hthriceG [[.u m], [.u a]]) =
    (let x1 : Nat := a % Go.Sx.M256; let x2 : Nat := m % Go.Sx.M256; let x3 : Nat := (x1 + x1) % x2; let x4 : Nat := x3 % Go.Sx.M256; x1 < x2 ∧ x1 < x2 ∧ x4 < x2 ∧ (x1 + x4) % x2 % Go.Sx.M256 = (x1 + x3) % x2 % Go.Sx.M256 ∧ True) := by kernel_rfl
-- END VC
-- VC vc_root HASH d4ca52a973e01d03
theorem vc_root (m a : Nat) (v : Option Addr) :
    Owes Tryz.prog cxRoot [] 100 Tryz.f74 [sHand m v, sU a] (hrootG [[.u m], [.u a]]) =
    (let x1 : Nat := m % Go.Sx.M256; let x2 : Nat := x1 / (4 : Nat); pE a m = (0 : Int) ∧ (if pE a m = (0 : Int) then (a % Go.Sx.M256) ^ (((if (4 : Nat) = (0 : Nat) then (0 : Nat) else x2) + (1 : Nat)) % Go.Sx.M256) % x1 else (0 : Nat)) % Go.Sx.M256 = (a % Go.Sx.M256) ^ (x2 + (1 : Nat)) % x1 % Go.Sx.M256 ∧ True) := by kernel_rfl
-- END VC

end Go.Proofs.YtbfcccoeekonlaaGreatDoor
end

section
/-
  Package curve: points: reckoned by the kernel. (Laid by program.)
-/
namespace Go.Proofs.YtbfcccoeekonlaaGreatDoor
open Go.Sx
set_option maxRecDepth 100000
abbrev pPt : List PK := [.u, .u, .b]
abbrev pCv : List PK := [.u, .u, .u, .u, .u, .u, .b]
abbrev Pt := Nat × Nat × Bool
abbrev sPt (x y : Nat) (f : Bool) : SA := .agg [.u x, .u y, .c (.val (.bool f))]
abbrev sCv (P A B N X Y : Nat) (F : Bool) : SA := .agg [.u P, .u A, .u B, .u N, .u X, .u Y, .c (.val (.bool F))]
def ptS (p : Pt) : SA := .agg [.u p.1, .u p.2.1, .c (.val (.bool p.2.2))]
def red (x y : Nat) (f : Bool) : Pt := (x % M256, y % M256, f)
def tw3 (m x : Nat) : Nat := (x + (x + x) % m) % m
def rhsN (m A B x : Nat) : Nat := ((x * (x * x % m) % m + A * x % m) % m + B) % m
def slopesN (m A B : Nat) : Nat := (((A * (A * A % m) % m + A * (A * A % m) % m) % m + (A * (A * A % m) % m + A * (A * A % m) % m) % m) % m + tw3 m (tw3 m (tw3 m (B * B % m)))) % m
def slopeN (m A : Nat) (p q : Pt) : Nat :=
  if p = q then (tw3 m (p.1 * p.1 % m) + A) % m * invN ((p.2.1 + p.2.1) % m) m % m
  else (q.2.1 + m - p.2.1) % m * invN ((q.1 + m - p.1) % m) m % m
def throughN (m : Nat) (s : Nat) (p q : Pt) : Pt :=
  (((s * s % m + m - p.1) % m + m - q.1) % m, (s * ((p.1 + m - ((s * s % m + m - p.1) % m + m - q.1) % m) % m) % m + m - p.2.1) % m, false)
def csum (m A : Nat) (p q : Pt) : Pt :=
  if p.2.2 = true then q else if q.2.2 = true then p else if p.1 = q.1 ∧ (p.2.1 + q.2.1) % m = 0 then (0, 0, true) else throughN m (slopeN m A p q) p q
structure inP (m : Nat) (p : Pt) : Prop where
  lt : p.2.2 = false → p.1 < m ∧ p.2.1 < m
structure slopeOK (m : Nat) (p q : Pt) : Prop where
  eq : p = q → Nat.gcd ((p.2.1 + p.2.1) % m) m = 1
  ne : p ≠ q → Nat.gcd ((q.1 + m - p.1) % m) m = 1
structure sumOK (m A : Nat) (p q : Pt) : Prop where
  A0 : A < m
  p0 : inP m p
  q0 : inP m q
  sl : p.2.2 = false → q.2.2 = false → ¬ (p.1 = q.1 ∧ (p.2.1 + q.2.1) % m = 0) → slopeOK m p q
structure onP (m A B : Nat) (p : Pt) : Prop where
  far : p.2.2 = true → p.1 = 0 ∧ p.2.1 = 0
  near : p.2.2 = false → p.1 < m ∧ p.2.1 < m ∧ p.2.1 * p.2.1 % m = rhsN m A B p.1
structure goodP (P A B N : Nat) (b : Pt) : Prop where
  P3 : 3 < P
  P4 : P % 4 = 3
  N1 : 1 < N
  A0 : A < P
  B0 : B < P
  s0 : slopesN P A B ≠ 0
  b0 : b.2.2 = false
  on : onP P A B b
/-- A point so often, by the bits of a number, from the highest one on. -/
def cmulR (m A k : Nat) (p : Pt) : Nat → Pt
  | 0 => (0, 0, true)
  | n + 1 => if k.testBit (255 - n) = true then csum m A (csum m A (cmulR m A k p n) (cmulR m A k p n)) p else csum m A (cmulR m A k p n) (cmulR m A k p n)
structure mulOK (m A k : Nat) (p : Pt) : Prop where
  dbl : ∀ n, n < 256 → sumOK m A (cmulR m A k p n) (cmulR m A k p n)
  add : ∀ n, n < 256 → k.testBit (255 - n) = true → sumOK m A (csum m A (cmulR m A k p n) (cmulR m A k p n)) p
def rightC : List (List At) → List Prop
  | [[.u m], [.u _, .u A, .u B, .u _, .u _, .u _, .b _], [.u x]] => [A % M256 < m % M256, B % M256 < m % M256, x % M256 < m % M256]
  | _ => [False]
def rightG : List (List At) → SV
  | [[.u m], [.u _, .u A, .u B, .u _, .u _, .u _, .b _], [.u x]] => .one (sU (rhsN (m % M256) (A % M256) (B % M256) (x % M256)))
  | _ => .tup []
def slopesC : List (List At) → List Prop
  | [[.u m], [.u _, .u A, .u B, .u _, .u _, .u _, .b _]] => [A % M256 < m % M256, B % M256 < m % M256]
  | _ => [False]
def slopesG : List (List At) → SV
  | [[.u m], [.u _, .u A, .u B, .u _, .u _, .u _, .b _]] => .one (sU (slopesN (m % M256) (A % M256) (B % M256)))
  | _ => .tup []
def haveC : List (List At) → List Prop
  | [[.u m], [.u _, .u A, .u B, .u _, .u _, .u _, .b _], [.u x, .u y, .b f]] => [A % M256 < m % M256, B % M256 < m % M256, onP (m % M256) (A % M256) (B % M256) (red x y f)]
  | _ => [False]
def voidG : List (List At) → SV := fun _ => .tup []
def beC : List (List At) → List Prop
  | [[.u m], [.u P, .u A, .u B, .u N, .u X, .u Y, .b F]] => [m % M256 = P % M256, goodP (P % M256) (A % M256) (B % M256) (N % M256) (red X Y F)]
  | _ => [False]
def slopeC : List (List At) → List Prop
  | [[.u m], [.u A], [.u x, .u y, .b f], [.u z, .u w, .b g]] => [A % M256 < m % M256, f = false, g = false, inP (m % M256) (red x y f), inP (m % M256) (red z w g), slopeOK (m % M256) (red x y f) (red z w g)]
  | _ => [False]
def slopeG : List (List At) → SV
  | [[.u m], [.u A], [.u x, .u y, .b f], [.u z, .u w, .b g]] => .one (sU (slopeN (m % M256) (A % M256) (red x y f) (red z w g)))
  | _ => .tup []
def sumPC : List (List At) → List Prop
  | [[.u m], [.u A], [.u x, .u y, .b f], [.u z, .u w, .b g]] => [sumOK (m % M256) (A % M256) (red x y f) (red z w g)]
  | _ => [False]
def sumPG : List (List At) → SV
  | [[.u m], [.u A], [.u x, .u y, .b f], [.u z, .u w, .b g]] => .one (ptS (csum (m % M256) (A % M256) (red x y f) (red z w g)))
  | _ => .tup []
def toldC : List (List At) → List Prop
  | [[.u _, .u _, .b _], [.i e]] => [e = 0]
  | _ => [False]
def toldG : List (List At) → SV
  | [[.u x, .u y, .b f], [.i _]] => .tup [sPt x y f, .sc (.num .i64 0)]
  | _ => .tup []
def oddG (a : Nat) : SV := .one (sB (a % M256 % 2 == 1))
def farG : SV := .one (.agg [.u 0, .u 0, .c (.bit true)])
def cAddC : List (List At) → List Prop
  | [[.u P, .u A, .u B, .u N, .u X, .u Y, .b F], [.u x, .u y, .b f], [.u z, .u w, .b g]] => [goodP (P % M256) (A % M256) (B % M256) (N % M256) (red X Y F), onP (P % M256) (A % M256) (B % M256) (red x y f), onP (P % M256) (A % M256) (B % M256) (red z w g), sumOK (P % M256) (A % M256) (red x y f) (red z w g)]
  | _ => [False]
def cAddG : List (List At) → SV
  | [[.u P, .u A, .u _, .u _, .u _, .u _, .b _], [.u x, .u y, .b f], [.u z, .u w, .b g]] => .tup [ptS (csum (P % M256) (A % M256) (red x y f) (red z w g)), .sc (.num .i64 0)]
  | _ => .tup []
def cMultC : List (List At) → List Prop
  | [[.u P, .u A, .u B, .u N, .u X, .u Y, .b F], [.u k], [.u x, .u y, .b f]] => [goodP (P % M256) (A % M256) (B % M256) (N % M256) (red X Y F), onP (P % M256) (A % M256) (B % M256) (red x y f), mulOK (P % M256) (A % M256) (k % M256) (red x y f)]
  | _ => [False]
def cMultG : List (List At) → SV
  | [[.u P, .u A, .u _, .u _, .u _, .u _, .b _], [.u k], [.u x, .u y, .b f]] => .tup [ptS (cmulR (P % M256) (A % M256) (k % M256) (red x y f) 256), .sc (.num .i64 0)]
  | _ => .tup []
def cOnC : List (List At) → List Prop
  | [[.u P, .u A, .u B, .u N, .u X, .u Y, .b F], [.u x, .u y, .b f]] => [goodP (P % M256) (A % M256) (B % M256) (N % M256) (red X Y F), f = true → x % M256 = 0 ∧ y % M256 = 0, f = false → x % M256 < P % M256 ∧ y % M256 < P % M256]
  | _ => [False]
def onE (P A B : Nat) (p : Pt) : Int := if p.2.2 = true then 0 else if p.2.1 * p.2.1 % P = rhsN P A B p.1 then 0 else 16
def cOnG : List (List At) → SV
  | [[.u P, .u A, .u B, .u _, .u _, .u _, .b _], [.u x, .u y, .b f]] => .one (sI .i64 (onE (P % M256) (A % M256) (B % M256) (red x y f)))
  | _ => .tup []
def cRight : FSpec := specA [.hand, .str pCv, .str [.u]] rightC rightG
def cSlopes : FSpec := specA [.hand, .str pCv] slopesC slopesG
def cHave : FSpec := specA [.hand, .str pCv, .str pPt] haveC voidG
def cBe : FSpec := specA [.hand, .str pCv] beC voidG
def cSlope : FSpec := specA [.hand, .str [.u], .str pPt, .str pPt] slopeC slopeG
def cSum : FSpec := specA [.hand, .str [.u], .str pPt, .str pPt] sumPC sumPG
def cTold : FSpec := specA [.str pPt, .int .i64] toldC toldG
def cxRight : Cx := [(65, cHadd), (63, cHmul)]
def cxSlopes : Cx := [(65, cHadd), (63, cHmul), (84, cTwice), (85, cThrice)]
def cxHave : Cx := [(63, cHmul), (64, cRight), (40, spec0 farG)]
def cxBe : Cx := [(15, specUU cmpG), (62, cSlopes), (39, cHave)]
def cxSlope : Cx := [(65, cHadd), (67, cHsub), (63, cHmul), (87, cHdiv), (84, cTwice), (85, cThrice)]
def cxSumP : Cx := [(65, cHadd), (67, cHsub), (63, cHmul), (66, cSlope), (40, spec0 farG)]
def cxCAdd : Cx := [(38, cBe), (39, cHave), (41, cSum), (42, cTold)]
def cxCMult : Cx := [(38, cBe), (39, cHave), (41, cSum), (42, cTold), (40, spec0 farG)]
def cxCOn : Cx := [(38, cBe), (63, cHmul), (64, cRight), (40, spec0 farG)]
def invMult (P A B N X Y : Nat) (F : Bool) (k x y : Nat) (f : Bool) : Inv where
  X := Nat
  tm j := slotsAt 57 [(3, .one (.sc (.ptr 0 0))), (4, .one (.sc (.ptr 1 0))), (5, .one (.sc (.ptr 2 0))), (6, .one (.sc (.ptr 3 0))), (8, .one (.sc (.ptr 4 0))), (9, .one (.sc (.ptr 5 0))), (10, .one (.sc (.ptr 6 0))), (11, .one (sI .i64 (255 - (j : Int))))]
  ob j := [.cells 30 [.u P, .u A, .u B, .u N, .u X, .u Y, .c (.val (.bool F))] 0, .cells 26 [.u k] 0, .cells 28 [.u x, .u y, .c (.val (.bool f))] 0, .cells 28 (zeroU ++ zeroU ++ [.c (.bit false)]) 0, .cells 33 [.c (.num .i64 0)] 0, .cells 77 [.u P, .c (.ptr 4 0)] 0, .cells 28 [.u (cmulR (P % M256) (A % M256) (k % M256) (red x y f) j).1, .u (cmulR (P % M256) (A % M256) (k % M256) (red x y f) j).2.1, .c (.val (.bool (cmulR (P % M256) (A % M256) (k % M256) (red x y f) j).2.2))] 0]
  holds j := j ≤ 256
  less j := 256 - j
-- VC vc_right HASH 098b51404ff67e2c
theorem vc_right (m P A B N X Y x : Nat) (F : Bool) (v : Option Addr) :
    Owes Tryz.prog cxRight [] 100 Tryz.f64 [sHand m v, sCv P A B N X Y F, sU x] (rightG [[.u m], [.u P, .u A, .u B, .u N, .u X, .u Y, .b F], [.u x]]) =
    (let x1 : Nat := x % Go.Sx.M256; let x2 : Nat := m % Go.Sx.M256; let x3 : Nat := x1 * x1 % x2 % Go.Sx.M256; let x4 : Nat := A % Go.Sx.M256; let x5 : Nat := x1 * x3 % x2 % Go.Sx.M256; let x6 : Nat := x4 * x1 % x2 % Go.Sx.M256; let x7 : Nat := (x5 + x6) % x2 % Go.Sx.M256; let x8 : Nat := B % Go.Sx.M256; x1 < x2 ∧ x1 < x2 ∧ x1 < x2 ∧ x3 < x2 ∧ x4 < x2 ∧ x1 < x2 ∧ x5 < x2 ∧ x6 < x2 ∧ x7 < x2 ∧ x8 < x2 ∧ (x7 + x8) % x2 % Go.Sx.M256 = rhsN x2 x4 x8 x1 % Go.Sx.M256 ∧ True) := by kernel_rfl
-- END VC
-- VC vc_slopes HASH 16eff754cb9287e9
theorem vc_slopes (m P A B N X Y : Nat) (F : Bool) (v : Option Addr) :
    Owes Tryz.prog cxSlopes [] 100 Tryz.f62 [sHand m v, sCv P A B N X Y F] (slopesG [[.u m], [.u P, .u A, .u B, .u N, .u X, .u Y, .b F]]) =
    (let x1 : Nat := A % Go.Sx.M256; let x2 : Nat := m % Go.Sx.M256; let x3 : Nat := x1 * x1 % x2 % Go.Sx.M256; let x4 : Nat := B % Go.Sx.M256; let x5 : Nat := x1 * x3 % x2 % Go.Sx.M256; let x6 : Nat := (x5 + x5) % x2 % Go.Sx.M256; let x7 : Nat := x4 * x4 % x2 % Go.Sx.M256; let x8 : Nat := (x7 + (x7 + x7) % x2) % x2 % Go.Sx.M256; let x9 : Nat := (x8 + (x8 + x8) % x2) % x2 % Go.Sx.M256; let x10 : Nat := (x6 + x6) % x2 % Go.Sx.M256; let x11 : Nat := (x9 + (x9 + x9) % x2) % x2 % Go.Sx.M256; x1 < x2 ∧ x1 < x2 ∧ x1 < x2 ∧ x3 < x2 ∧ x4 < x2 ∧ x4 < x2 ∧ x5 < x2 ∧ x6 < x2 ∧ x7 < x2 ∧ x8 < x2 ∧ x9 < x2 ∧ x10 < x2 ∧ x11 < x2 ∧ (x10 + x11) % x2 % Go.Sx.M256 = slopesN x2 x1 x4 % Go.Sx.M256 ∧ True) := by kernel_rfl
-- END VC
-- VC vc_have HASH d61cd70bb51e3529
theorem vc_have (m P A B N X Y x y : Nat) (F f : Bool) (v : Option Addr) :
    Owes Tryz.prog cxHave [] 100 Tryz.f39 [sHand m v, sCv P A B N X Y F, sPt x y f] (.tup []) =
    (let x1 : Nat := x % Go.Sx.M256; let x2 : Nat := y % Go.Sx.M256; let x3 : Nat := m % Go.Sx.M256; let x4 : Nat := A % Go.Sx.M256; let x5 : Nat := B % Go.Sx.M256; (f = Bool.true → ((!Go.Sx.conj [x1 == (0 : Nat), x2 == (0 : Nat), f == Bool.true]) = Bool.true → Go.Sx.Stuck { dst := Option.some (8 : Nat), op := Go.Op.nilCheck (Go.Operand.tmp (7 : Nat)), type := (0 : Nat), pos := "hand.go:19", after := #[{ on := (1 : Nat), ground := Go.Ground.data }, { on := (0 : Nat), ground := Go.Ground.phase }, { on := (1 : Nat), ground := Go.Ground.phase }], guard := Option.none }) ∧ ((!Go.Sx.conj [x1 == (0 : Nat), x2 == (0 : Nat), f == Bool.true]) = Bool.false → True)) ∧ (f = Bool.false → x2 < x3 ∧ x2 < x3 ∧ x4 < x3 ∧ x5 < x3 ∧ x1 < x3 ∧ ((!Go.Sx.conj [x2 * x2 % x3 % Go.Sx.M256 == rhsN x3 x4 x5 x1 % Go.Sx.M256]) = Bool.true → Go.Sx.Stuck { dst := Option.some (8 : Nat), op := Go.Op.nilCheck (Go.Operand.tmp (7 : Nat)), type := (0 : Nat), pos := "hand.go:19", after := #[{ on := (1 : Nat), ground := Go.Ground.data }, { on := (0 : Nat), ground := Go.Ground.phase }, { on := (1 : Nat), ground := Go.Ground.phase }], guard := Option.none }) ∧ ((!Go.Sx.conj [x2 * x2 % x3 % Go.Sx.M256 == rhsN x3 x4 x5 x1 % Go.Sx.M256]) = Bool.false → True))) := by kernel_rfl
-- END VC
-- VC vc_be HASH 370d9ef6fab6277d
theorem vc_be (m P A B N X Y : Nat) (F : Bool) (v : Option Addr) :
    Owes Tryz.prog cxBe [] 100 Tryz.f38 [sHand m v, sCv P A B N X Y F] (.tup []) =
    (let x1 : Bool := Decidable.decide (Go.Sx.cmpN P (3 : Nat) > (0 : Int)); let x2 : Nat := A % Go.Sx.M256; let x3 : Nat := m % Go.Sx.M256; let x4 : Nat := B % Go.Sx.M256; (x1 = Bool.true → x1 = Bool.true) ∧ (x1 = Bool.true → x1 = Bool.true) ∧ (x1 = Bool.true → x1 = Bool.true) ∧ (x1 = Bool.true → x1 = Bool.true) ∧ (x1 = Bool.true → x1 = Bool.true) ∧ ((!(x1 && (Go.Sx.limb P (0 : Nat)).tmod (4 : Int) == (3 : Int))) = Bool.true → Go.Sx.Stuck { dst := Option.some (8 : Nat), op := Go.Op.nilCheck (Go.Operand.tmp (7 : Nat)), type := (0 : Nat), pos := "hand.go:19", after := #[{ on := (1 : Nat), ground := Go.Ground.data }, { on := (0 : Nat), ground := Go.Ground.phase }, { on := (1 : Nat), ground := Go.Ground.phase }], guard := Option.none }) ∧ ((!(x1 && (Go.Sx.limb P (0 : Nat)).tmod (4 : Int) == (3 : Int))) = Bool.false → ((!Decidable.decide (Go.Sx.cmpN N (1 : Nat) > (0 : Int))) = Bool.true → Go.Sx.Stuck { dst := Option.some (8 : Nat), op := Go.Op.nilCheck (Go.Operand.tmp (7 : Nat)), type := (0 : Nat), pos := "hand.go:19", after := #[{ on := (1 : Nat), ground := Go.Ground.data }, { on := (0 : Nat), ground := Go.Ground.phase }, { on := (1 : Nat), ground := Go.Ground.phase }], guard := Option.none }) ∧ ((!Decidable.decide (Go.Sx.cmpN N (1 : Nat) > (0 : Int))) = Bool.false → x2 < x3 ∧ x4 < x3 ∧ ((!!Go.Sx.conj [slopesN x3 x2 x4 % Go.Sx.M256 == (0 : Nat)]) = Bool.true → Go.Sx.Stuck { dst := Option.some (8 : Nat), op := Go.Op.nilCheck (Go.Operand.tmp (7 : Nat)), type := (0 : Nat), pos := "hand.go:19", after := #[{ on := (1 : Nat), ground := Go.Ground.data }, { on := (0 : Nat), ground := Go.Ground.phase }, { on := (1 : Nat), ground := Go.Ground.phase }], guard := Option.none }) ∧ ((!!Go.Sx.conj [slopesN x3 x2 x4 % Go.Sx.M256 == (0 : Nat)]) = Bool.false → ((!!F) = Bool.true → Go.Sx.Stuck { dst := Option.some (8 : Nat), op := Go.Op.nilCheck (Go.Operand.tmp (7 : Nat)), type := (0 : Nat), pos := "hand.go:19", after := #[{ on := (1 : Nat), ground := Go.Ground.data }, { on := (0 : Nat), ground := Go.Ground.phase }, { on := (1 : Nat), ground := Go.Ground.phase }], guard := Option.none }) ∧ ((!!F) = Bool.false → x2 < x3 ∧ x4 < x3 ∧ onP x3 x2 x4 (red X Y F) ∧ True))))) := by kernel_rfl
-- END VC
-- VC vc_slope HASH b549eaebe7a84ed6
theorem vc_slope (m A x y z w : Nat) (f g : Bool) (v : Option Addr) :
    Owes Tryz.prog cxSlope [] 100 Tryz.f66 [sHand m v, sU A, sPt x y f, sPt z w g] (slopeG [[.u m], [.u A], [.u x, .u y, .b f], [.u z, .u w, .b g]]) =
    (let x1 : Nat := x % Go.Sx.M256; let x2 : Nat := z % Go.Sx.M256; let x3 : Nat := y % Go.Sx.M256; let x4 : Nat := w % Go.Sx.M256; let x5 : Nat := m % Go.Sx.M256; let x6 : Nat := x1 * x1 % x5 % Go.Sx.M256; let x7 : Nat := (x6 + (x6 + x6) % x5) % x5 % Go.Sx.M256; let x8 : Nat := A % Go.Sx.M256; let x9 : Nat := (x7 + x8) % x5 % Go.Sx.M256; let x10 : Nat := (x3 + x3) % x5 % Go.Sx.M256; let x11 : Nat := slopeN x5 x8 (red x y f) (red z w g) % Go.Sx.M256; let x12 : Nat := (x4 + x5 - x3) % x5 % Go.Sx.M256; let x13 : Nat := (x2 + x5 - x1) % x5 % Go.Sx.M256; (Go.Sx.conj [x1 == x2, x3 == x4, f == g] = Bool.true → x1 < x5 ∧ x1 < x5 ∧ x6 < x5 ∧ x7 < x5 ∧ x8 < x5 ∧ x3 < x5 ∧ x9 < x5 ∧ x10 < x5 ∧ x10.gcd x5 = (1 : Nat) ∧ x9 * invN x10 x5 % x5 % Go.Sx.M256 = x11 ∧ True) ∧ (Go.Sx.conj [x1 == x2, x3 == x4, f == g] = Bool.false → x4 < x5 ∧ x3 < x5 ∧ x2 < x5 ∧ x1 < x5 ∧ x12 < x5 ∧ x13 < x5 ∧ x13.gcd x5 = (1 : Nat) ∧ x12 * invN x13 x5 % x5 % Go.Sx.M256 = x11 ∧ True)) := by kernel_rfl
-- END VC
-- VC vc_sumP HASH e34dd2d08acdd81c
theorem vc_sumP (m A x y z w : Nat) (f g : Bool) (v : Option Addr) :
    Owes Tryz.prog cxSumP [] 100 Tryz.f41 [sHand m v, sU A, sPt x y f, sPt z w g] (sumPG [[.u m], [.u A], [.u x, .u y, .b f], [.u z, .u w, .b g]]) =
    (let x1 : Nat := z % Go.Sx.M256; let x2 : Nat := m % Go.Sx.M256; let x3 : Nat := A % Go.Sx.M256; let x4 : Nat := (csum x2 x3 (red x y f) (red z w g)).fst % Go.Sx.M256; let x5 : Nat := w % Go.Sx.M256; let x6 : Nat := (csum x2 x3 (red x y f) (red z w g)).snd.fst % Go.Sx.M256; let x7 : Bool := (csum x2 x3 (red x y f) (red z w g)).snd.snd; let x8 : Nat := x % Go.Sx.M256; let x9 : Nat := y % Go.Sx.M256; let x10 : Bool := Go.Sx.conj [x8 == x1]; let x11 : Nat := slopeN x2 x3 (red x y f) (red z w g) % Go.Sx.M256; let x12 : Nat := x11 * x11 % x2 % Go.Sx.M256; let x13 : Nat := (x12 + x2 - x8) % x2 % Go.Sx.M256; let x14 : Nat := (x13 + x2 - x1) % x2 % Go.Sx.M256; let x15 : Nat := (x8 + x2 - x14) % x2 % Go.Sx.M256; let x16 : Nat := x11 * x15 % x2 % Go.Sx.M256; (f = Bool.true → x1 = x4 ∧ x5 = x6 ∧ g = x7 ∧ True) ∧ (f = Bool.false → (g = Bool.true → x8 = x4 ∧ x9 = x6 ∧ f = x7 ∧ True) ∧ (g = Bool.false → (x10 = Bool.true → x10 = Bool.true) ∧ (x10 = Bool.true → x10 = Bool.true) ∧ (x10 = Bool.true → x10 = Bool.true) ∧ (x10 = Bool.true → x10 = Bool.true) ∧ (x10 = Bool.true → x10 = Bool.true) ∧ (x10 = Bool.true → x9 < x2) ∧ (x10 = Bool.true → x5 < x2) ∧ (x10 = Bool.true → x10 = Bool.true) ∧ (x10 = Bool.true → x10 = Bool.true) ∧ (x10 = Bool.true → x10 = Bool.true) ∧ ((x10 && Go.Sx.conj [(x9 + x5) % x2 % Go.Sx.M256 == (0 : Nat)]) = Bool.true → (0 : Nat) = x4 ∧ (0 : Nat) = x6 ∧ Bool.true = x7 ∧ True) ∧ ((x10 && Go.Sx.conj [(x9 + x5) % x2 % Go.Sx.M256 == (0 : Nat)]) = Bool.false → x3 < x2 ∧ f = Bool.false ∧ g = Bool.false ∧ inP x2 (red x y f) ∧ inP x2 (red z w g) ∧ slopeOK x2 (red x y f) (red z w g) ∧ x11 < x2 ∧ x11 < x2 ∧ x12 < x2 ∧ x8 < x2 ∧ x13 < x2 ∧ x1 < x2 ∧ x8 < x2 ∧ x14 < x2 ∧ x11 < x2 ∧ x15 < x2 ∧ x16 < x2 ∧ x9 < x2 ∧ x14 = x4 ∧ (x16 + x2 - x9) % x2 % Go.Sx.M256 = x6 ∧ Bool.false = x7 ∧ True)))) := by kernel_rfl
-- END VC
-- VC vc_told HASH 47556c5346772630
theorem vc_told (x y : Nat) (f : Bool) (e : Int) :
    Owes Tryz.prog Cx.none [] 100 Tryz.f42 [sPt x y f, sI .i64 e] (toldG [[.u x, .u y, .b f], [.i e]]) =
    (let x1 : Nat := x % Go.Sx.M256; let x2 : Nat := y % Go.Sx.M256; ((e != (0 : Int)) = Bool.true → ((0 : Nat) = x1 ∧ (0 : Nat) = x2 ∧ Bool.false = f ∧ True) ∧ e = (0 : Int)) ∧ ((e != (0 : Int)) = Bool.false → (x1 = x1 ∧ x2 = x2 ∧ f = f ∧ True) ∧ (0 : Int) = (0 : Int))) := by kernel_rfl
-- END VC
-- VC vc_isOdd HASH 644d845e84c4c840
theorem vc_isOdd (a : Nat) :
    Owes Tryz.prog Cx.none [] 100 Tryz.f75 [sU a] (oddG a) =
    (((Go.Sx.limb a (0 : Nat)).tmod (2 : Int) == (1 : Int)) = (a % Go.Sx.M256 % (2 : Nat) == (1 : Nat))) := by kernel_rfl
-- END VC
-- VC vc_far HASH f56beee36032bea9
theorem vc_far  :
    Owes Tryz.prog Cx.none [] 100 Tryz.f40 [] farG =
    ((0 : Nat) = (0 : Nat) ∧ (0 : Nat) = (0 : Nat) ∧ Bool.true = Bool.true ∧ True) := by kernel_rfl
-- END VC
-- VC vc_cAdd HASH 63bd5dba45798acc
theorem vc_cAdd (P A B N X Y x y z w : Nat) (F f g : Bool) :
    Owes Tryz.prog cxCAdd [] 100 Tryz.f53 [sCv P A B N X Y F, sPt x y f, sPt z w g] (cAddG [[.u P, .u A, .u B, .u N, .u X, .u Y, .b F], [.u x, .u y, .b f], [.u z, .u w, .b g]]) =
    (let x1 : Nat := P % Go.Sx.M256; let x2 : Nat := A % Go.Sx.M256; let x3 : Nat := B % Go.Sx.M256; let x4 : Nat := (csum x1 x2 (red x y f) (red z w g)).fst % Go.Sx.M256; let x5 : Nat := (csum x1 x2 (red x y f) (red z w g)).snd.fst % Go.Sx.M256; let x6 : Bool := (csum x1 x2 (red x y f) (red z w g)).snd.snd; x1 = x1 ∧ goodP x1 x2 x3 (N % Go.Sx.M256) (red X Y F) ∧ x2 < x1 ∧ x3 < x1 ∧ onP x1 x2 x3 (red x y f) ∧ x2 < x1 ∧ x3 < x1 ∧ onP x1 x2 x3 (red z w g) ∧ sumOK x1 x2 (red x y f) (red z w g) ∧ (0 : Int) = (0 : Int) ∧ (x4 = x4 ∧ x5 = x5 ∧ x6 = x6 ∧ True) ∧ (0 : Int) = (0 : Int)) := by kernel_rfl
-- END VC
-- VC vc_cOn HASH 6c4cf40b4f3c8c14
theorem vc_cOn (P A B N X Y x y : Nat) (F f : Bool) :
    Owes Tryz.prog cxCOn [] 100 Tryz.f34 [sCv P A B N X Y F, sPt x y f] (cOnG [[.u P, .u A, .u B, .u N, .u X, .u Y, .b F], [.u x, .u y, .b f]]) =
    (let x1 : Nat := P % Go.Sx.M256; let x2 : Nat := A % Go.Sx.M256; let x3 : Nat := B % Go.Sx.M256; let x4 : Nat := x % Go.Sx.M256; let x5 : Nat := y % Go.Sx.M256; let x6 : Int := onE x1 x2 x3 (red x y f); x1 = x1 ∧ goodP x1 x2 x3 (N % Go.Sx.M256) (red X Y F) ∧ (f = Bool.true → ((!Go.Sx.conj [x4 == (0 : Nat), x5 == (0 : Nat), f == Bool.true]) = Bool.true → (16 : Int) = x6) ∧ ((!Go.Sx.conj [x4 == (0 : Nat), x5 == (0 : Nat), f == Bool.true]) = Bool.false → (0 : Int) = x6)) ∧ (f = Bool.false → x5 < x1 ∧ x5 < x1 ∧ x2 < x1 ∧ x3 < x1 ∧ x4 < x1 ∧ ((!Go.Sx.conj [x5 * x5 % x1 % Go.Sx.M256 == rhsN x1 x2 x3 x4 % Go.Sx.M256]) = Bool.true → (16 : Int) = x6) ∧ ((!Go.Sx.conj [x5 * x5 % x1 % Go.Sx.M256 == rhsN x1 x2 x3 x4 % Go.Sx.M256]) = Bool.false → (0 : Int) = x6))) := by kernel_rfl
-- END VC
-- VC vc_cMult HASH 3f2358f69f6c91b1
theorem vc_cMult (P A B N X Y k x y : Nat) (F f : Bool) :
    Owes Tryz.prog cxCMult [(7, .inv (invMult P A B N X Y F k x y f))] 100 Tryz.f21 [sCv P A B N X Y F, sU k, sPt x y f] (cMultG [[.u P, .u A, .u B, .u N, .u X, .u Y, .b F], [.u k], [.u x, .u y, .b f]]) =
    (let x1 : Nat := P % Go.Sx.M256; let x2 : Nat := A % Go.Sx.M256; let x3 : Nat := B % Go.Sx.M256; let x4 : Nat := N % Go.Sx.M256; let x5 : Nat := k % Go.Sx.M256; let x6 : Nat := X % Go.Sx.M256; let x7 : Nat := Y % Go.Sx.M256; let x8 : Nat := x % Go.Sx.M256; let x9 : Nat := y % Go.Sx.M256; x1 = x1 ∧ goodP x1 x2 x3 x4 (red X Y F) ∧ x2 < x1 ∧ x3 < x1 ∧ onP x1 x2 x3 (red x y f) ∧ (∀ (y_1 : Nat), Go.Sx.closedB (Go.Sx.slotsAt (57 : Nat) [((3 : Nat), Go.Sx.SV.one (Go.Sx.SA.sc (Go.Sx.SC.ptr (0 : Nat) (0 : Nat)))), ((4 : Nat), Go.Sx.SV.one (Go.Sx.SA.sc (Go.Sx.SC.ptr (1 : Nat) (0 : Nat)))), ((5 : Nat), Go.Sx.SV.one (Go.Sx.SA.sc (Go.Sx.SC.ptr (2 : Nat) (0 : Nat)))), ((6 : Nat), Go.Sx.SV.one (Go.Sx.SA.sc (Go.Sx.SC.ptr (3 : Nat) (0 : Nat)))), ((8 : Nat), Go.Sx.SV.one (Go.Sx.SA.sc (Go.Sx.SC.ptr (4 : Nat) (0 : Nat)))), ((9 : Nat), Go.Sx.SV.one (Go.Sx.SA.sc (Go.Sx.SC.ptr (5 : Nat) (0 : Nat)))), ((10 : Nat), Go.Sx.SV.one (Go.Sx.SA.sc (Go.Sx.SC.ptr (6 : Nat) (0 : Nat)))), ((11 : Nat), Go.Sx.SV.one (Go.Sx.sI Go.IntKind.i64 ((255 : Int) - (↑y_1 : Int))))]) [Go.Sx.SO.cells (30 : Go.TypeId) [Go.Sx.SK.u P, Go.Sx.SK.u A, Go.Sx.SK.u B, Go.Sx.SK.u N, Go.Sx.SK.u X, Go.Sx.SK.u Y, Go.Sx.SK.c (Go.Sx.SC.val (Go.Value.bool F))] (0 : Nat), Go.Sx.SO.cells (26 : Go.TypeId) [Go.Sx.SK.u k] (0 : Nat), Go.Sx.SO.cells (28 : Go.TypeId) [Go.Sx.SK.u x, Go.Sx.SK.u y, Go.Sx.SK.c (Go.Sx.SC.val (Go.Value.bool f))] (0 : Nat), Go.Sx.SO.cells (28 : Go.TypeId) (zeroU ++ zeroU ++ [Go.Sx.SK.c (Go.Sx.SC.bit Bool.false)]) (0 : Nat), Go.Sx.SO.cells (33 : Go.TypeId) [Go.Sx.SK.c (Go.Sx.SC.num Go.IntKind.i64 (0 : Int))] (0 : Nat), Go.Sx.SO.cells (77 : Go.TypeId) [Go.Sx.SK.u P, Go.Sx.SK.c (Go.Sx.SC.ptr (4 : Nat) (0 : Nat))] (0 : Nat), Go.Sx.SO.cells (28 : Go.TypeId) [Go.Sx.SK.u (cmulR x1 x2 x5 (red x y f) y_1).fst, Go.Sx.SK.u (cmulR x1 x2 x5 (red x y f) y_1).snd.fst, Go.Sx.SK.c (Go.Sx.SC.val (Go.Value.bool (cmulR x1 x2 x5 (red x y f) y_1).snd.snd))] (0 : Nat)] = Bool.true) ∧ ∃ (y_1 : Nat), y_1 ≤ (256 : Nat) ∧ (255 : Int) = (255 : Int) - (↑y_1 : Int) ∧ x1 = x1 ∧ x2 = x2 ∧ x3 = x3 ∧ x4 = x4 ∧ x6 = x6 ∧ x7 = x7 ∧ F = F ∧ (0 : Nat) = (0 : Nat) ∧ x5 = x5 ∧ (0 : Nat) = (0 : Nat) ∧ x8 = x8 ∧ x9 = x9 ∧ f = f ∧ (0 : Nat) = (0 : Nat) ∧ (0 : Nat) = (0 : Nat) ∧ (0 : Nat) = (0 : Nat) ∧ x1 = x1 ∧ (0 : Nat) = (0 : Nat) ∧ (0 : Nat) = (cmulR x1 x2 x5 (red x y f) y_1).fst % Go.Sx.M256 ∧ (0 : Nat) = (cmulR x1 x2 x5 (red x y f) y_1).snd.fst % Go.Sx.M256 ∧ Bool.true = (cmulR x1 x2 x5 (red x y f) y_1).snd.snd ∧ (0 : Nat) = (0 : Nat) ∧ ∀ (y_2 : Nat), y_2 ≤ (256 : Nat) → (Decidable.decide ((255 : Int) - (↑y_2 : Int) ≥ (0 : Int)) = Bool.true → Decidable.decide ((255 : Int) - (↑y_2 : Int) ≥ (0 : Int)) = Bool.true) ∧ (Decidable.decide ((255 : Int) - (↑y_2 : Int) ≥ (0 : Int)) = Bool.true → Decidable.decide ((255 : Int) - (↑y_2 : Int) ≥ (0 : Int)) = Bool.true) ∧ ((Decidable.decide ((255 : Int) - (↑y_2 : Int) ≥ (0 : Int)) && (0 : Int) == (0 : Int)) = Bool.true → sumOK x1 x2 (red (cmulR x1 x2 x5 (red x y f) y_2).fst (cmulR x1 x2 x5 (red x y f) y_2).snd.fst (cmulR x1 x2 x5 (red x y f) y_2).snd.snd) (red (cmulR x1 x2 x5 (red x y f) y_2).fst (cmulR x1 x2 x5 (red x y f) y_2).snd.fst (cmulR x1 x2 x5 (red x y f) y_2).snd.snd) ∧ ((0 : Int) ≤ Go.IntKind.i64.wrap (((255 : Int) - (↑y_2 : Int)).tdiv (64 : Int)) ∧ Go.IntKind.i64.wrap (((255 : Int) - (↑y_2 : Int)).tdiv (64 : Int)) < (4 : Int)) ∧ ((0 : Int) ≤ Go.IntKind.i64.wrap (((255 : Int) - (↑y_2 : Int)).tdiv (64 : Int)) ∧ Go.IntKind.i64.wrap (((255 : Int) - (↑y_2 : Int)).tdiv (64 : Int)) < (4 : Int)) ∧ (0 : Int) ≤ ((255 : Int) - (↑y_2 : Int)).tmod (64 : Int) ∧ ((Go.IntKind.u64.wrap (↑(BitVec.ofInt (64 : Nat) ((Go.Sx.limb k (Go.IntKind.i64.wrap (((255 : Int) - (↑y_2 : Int)).tdiv (64 : Int))).toNat).fdiv ((2 : Int) ^ Min.min (((255 : Int) - (↑y_2 : Int)).tmod (64 : Int)).toNat (64 : Nat))) &&& BitVec.ofInt (64 : Nat) (1 : Int)).toNat : Int) == (1 : Int)) = Bool.true → sumOK x1 x2 (red (csum x1 x2 (red (cmulR x1 x2 x5 (red x y f) y_2).fst (cmulR x1 x2 x5 (red x y f) y_2).snd.fst (cmulR x1 x2 x5 (red x y f) y_2).snd.snd) (red (cmulR x1 x2 x5 (red x y f) y_2).fst (cmulR x1 x2 x5 (red x y f) y_2).snd.fst (cmulR x1 x2 x5 (red x y f) y_2).snd.snd)).fst (csum x1 x2 (red (cmulR x1 x2 x5 (red x y f) y_2).fst (cmulR x1 x2 x5 (red x y f) y_2).snd.fst (cmulR x1 x2 x5 (red x y f) y_2).snd.snd) (red (cmulR x1 x2 x5 (red x y f) y_2).fst (cmulR x1 x2 x5 (red x y f) y_2).snd.fst (cmulR x1 x2 x5 (red x y f) y_2).snd.snd)).snd.fst (csum x1 x2 (red (cmulR x1 x2 x5 (red x y f) y_2).fst (cmulR x1 x2 x5 (red x y f) y_2).snd.fst (cmulR x1 x2 x5 (red x y f) y_2).snd.snd) (red (cmulR x1 x2 x5 (red x y f) y_2).fst (cmulR x1 x2 x5 (red x y f) y_2).snd.fst (cmulR x1 x2 x5 (red x y f) y_2).snd.snd)).snd.snd) (red x y f) ∧ ∃ (y' : Nat), y' ≤ (256 : Nat) ∧ Go.IntKind.i64.wrap ((255 : Int) - (↑y_2 : Int) - (1 : Int)) = (255 : Int) - (↑y' : Int) ∧ x1 = x1 ∧ x2 = x2 ∧ x3 = x3 ∧ x4 = x4 ∧ x6 = x6 ∧ x7 = x7 ∧ F = F ∧ (0 : Nat) = (0 : Nat) ∧ x5 = x5 ∧ (0 : Nat) = (0 : Nat) ∧ x8 = x8 ∧ x9 = x9 ∧ f = f ∧ (0 : Nat) = (0 : Nat) ∧ (0 : Nat) = (0 : Nat) ∧ (0 : Nat) = (0 : Nat) ∧ x1 = x1 ∧ (0 : Nat) = (0 : Nat) ∧ (csum x1 x2 (red (csum x1 x2 (red (cmulR x1 x2 x5 (red x y f) y_2).fst (cmulR x1 x2 x5 (red x y f) y_2).snd.fst (cmulR x1 x2 x5 (red x y f) y_2).snd.snd) (red (cmulR x1 x2 x5 (red x y f) y_2).fst (cmulR x1 x2 x5 (red x y f) y_2).snd.fst (cmulR x1 x2 x5 (red x y f) y_2).snd.snd)).fst (csum x1 x2 (red (cmulR x1 x2 x5 (red x y f) y_2).fst (cmulR x1 x2 x5 (red x y f) y_2).snd.fst (cmulR x1 x2 x5 (red x y f) y_2).snd.snd) (red (cmulR x1 x2 x5 (red x y f) y_2).fst (cmulR x1 x2 x5 (red x y f) y_2).snd.fst (cmulR x1 x2 x5 (red x y f) y_2).snd.snd)).snd.fst (csum x1 x2 (red (cmulR x1 x2 x5 (red x y f) y_2).fst (cmulR x1 x2 x5 (red x y f) y_2).snd.fst (cmulR x1 x2 x5 (red x y f) y_2).snd.snd) (red (cmulR x1 x2 x5 (red x y f) y_2).fst (cmulR x1 x2 x5 (red x y f) y_2).snd.fst (cmulR x1 x2 x5 (red x y f) y_2).snd.snd)).snd.snd) (red x y f)).fst % Go.Sx.M256 = (cmulR x1 x2 x5 (red x y f) y').fst % Go.Sx.M256 ∧ (csum x1 x2 (red (csum x1 x2 (red (cmulR x1 x2 x5 (red x y f) y_2).fst (cmulR x1 x2 x5 (red x y f) y_2).snd.fst (cmulR x1 x2 x5 (red x y f) y_2).snd.snd) (red (cmulR x1 x2 x5 (red x y f) y_2).fst (cmulR x1 x2 x5 (red x y f) y_2).snd.fst (cmulR x1 x2 x5 (red x y f) y_2).snd.snd)).fst (csum x1 x2 (red (cmulR x1 x2 x5 (red x y f) y_2).fst (cmulR x1 x2 x5 (red x y f) y_2).snd.fst (cmulR x1 x2 x5 (red x y f) y_2).snd.snd) (red (cmulR x1 x2 x5 (red x y f) y_2).fst (cmulR x1 x2 x5 (red x y f) y_2).snd.fst (cmulR x1 x2 x5 (red x y f) y_2).snd.snd)).snd.fst (csum x1 x2 (red (cmulR x1 x2 x5 (red x y f) y_2).fst (cmulR x1 x2 x5 (red x y f) y_2).snd.fst (cmulR x1 x2 x5 (red x y f) y_2).snd.snd) (red (cmulR x1 x2 x5 (red x y f) y_2).fst (cmulR x1 x2 x5 (red x y f) y_2).snd.fst (cmulR x1 x2 x5 (red x y f) y_2).snd.snd)).snd.snd) (red x y f)).snd.fst % Go.Sx.M256 = (cmulR x1 x2 x5 (red x y f) y').snd.fst % Go.Sx.M256 ∧ (csum x1 x2 (red (csum x1 x2 (red (cmulR x1 x2 x5 (red x y f) y_2).fst (cmulR x1 x2 x5 (red x y f) y_2).snd.fst (cmulR x1 x2 x5 (red x y f) y_2).snd.snd) (red (cmulR x1 x2 x5 (red x y f) y_2).fst (cmulR x1 x2 x5 (red x y f) y_2).snd.fst (cmulR x1 x2 x5 (red x y f) y_2).snd.snd)).fst (csum x1 x2 (red (cmulR x1 x2 x5 (red x y f) y_2).fst (cmulR x1 x2 x5 (red x y f) y_2).snd.fst (cmulR x1 x2 x5 (red x y f) y_2).snd.snd) (red (cmulR x1 x2 x5 (red x y f) y_2).fst (cmulR x1 x2 x5 (red x y f) y_2).snd.fst (cmulR x1 x2 x5 (red x y f) y_2).snd.snd)).snd.fst (csum x1 x2 (red (cmulR x1 x2 x5 (red x y f) y_2).fst (cmulR x1 x2 x5 (red x y f) y_2).snd.fst (cmulR x1 x2 x5 (red x y f) y_2).snd.snd) (red (cmulR x1 x2 x5 (red x y f) y_2).fst (cmulR x1 x2 x5 (red x y f) y_2).snd.fst (cmulR x1 x2 x5 (red x y f) y_2).snd.snd)).snd.snd) (red x y f)).snd.snd = (cmulR x1 x2 x5 (red x y f) y').snd.snd ∧ (0 : Nat) = (0 : Nat) ∧ (256 : Nat) - y' < (256 : Nat) - y_2) ∧ ((Go.IntKind.u64.wrap (↑(BitVec.ofInt (64 : Nat) ((Go.Sx.limb k (Go.IntKind.i64.wrap (((255 : Int) - (↑y_2 : Int)).tdiv (64 : Int))).toNat).fdiv ((2 : Int) ^ Min.min (((255 : Int) - (↑y_2 : Int)).tmod (64 : Int)).toNat (64 : Nat))) &&& BitVec.ofInt (64 : Nat) (1 : Int)).toNat : Int) == (1 : Int)) = Bool.false → ∃ (y' : Nat), y' ≤ (256 : Nat) ∧ Go.IntKind.i64.wrap ((255 : Int) - (↑y_2 : Int) - (1 : Int)) = (255 : Int) - (↑y' : Int) ∧ x1 = x1 ∧ x2 = x2 ∧ x3 = x3 ∧ x4 = x4 ∧ x6 = x6 ∧ x7 = x7 ∧ F = F ∧ (0 : Nat) = (0 : Nat) ∧ x5 = x5 ∧ (0 : Nat) = (0 : Nat) ∧ x8 = x8 ∧ x9 = x9 ∧ f = f ∧ (0 : Nat) = (0 : Nat) ∧ (0 : Nat) = (0 : Nat) ∧ (0 : Nat) = (0 : Nat) ∧ x1 = x1 ∧ (0 : Nat) = (0 : Nat) ∧ (csum x1 x2 (red (cmulR x1 x2 x5 (red x y f) y_2).fst (cmulR x1 x2 x5 (red x y f) y_2).snd.fst (cmulR x1 x2 x5 (red x y f) y_2).snd.snd) (red (cmulR x1 x2 x5 (red x y f) y_2).fst (cmulR x1 x2 x5 (red x y f) y_2).snd.fst (cmulR x1 x2 x5 (red x y f) y_2).snd.snd)).fst % Go.Sx.M256 = (cmulR x1 x2 x5 (red x y f) y').fst % Go.Sx.M256 ∧ (csum x1 x2 (red (cmulR x1 x2 x5 (red x y f) y_2).fst (cmulR x1 x2 x5 (red x y f) y_2).snd.fst (cmulR x1 x2 x5 (red x y f) y_2).snd.snd) (red (cmulR x1 x2 x5 (red x y f) y_2).fst (cmulR x1 x2 x5 (red x y f) y_2).snd.fst (cmulR x1 x2 x5 (red x y f) y_2).snd.snd)).snd.fst % Go.Sx.M256 = (cmulR x1 x2 x5 (red x y f) y').snd.fst % Go.Sx.M256 ∧ (csum x1 x2 (red (cmulR x1 x2 x5 (red x y f) y_2).fst (cmulR x1 x2 x5 (red x y f) y_2).snd.fst (cmulR x1 x2 x5 (red x y f) y_2).snd.snd) (red (cmulR x1 x2 x5 (red x y f) y_2).fst (cmulR x1 x2 x5 (red x y f) y_2).snd.fst (cmulR x1 x2 x5 (red x y f) y_2).snd.snd)).snd.snd = (cmulR x1 x2 x5 (red x y f) y').snd.snd ∧ (0 : Nat) = (0 : Nat) ∧ (256 : Nat) - y' < (256 : Nat) - y_2)) ∧ ((Decidable.decide ((255 : Int) - (↑y_2 : Int) ≥ (0 : Int)) && (0 : Int) == (0 : Int)) = Bool.false → (0 : Int) = (0 : Int) ∧ ((cmulR x1 x2 x5 (red x y f) y_2).fst % Go.Sx.M256 = (cmulR x1 x2 x5 (red x y f) (256 : Nat)).fst % Go.Sx.M256 ∧ (cmulR x1 x2 x5 (red x y f) y_2).snd.fst % Go.Sx.M256 = (cmulR x1 x2 x5 (red x y f) (256 : Nat)).snd.fst % Go.Sx.M256 ∧ (cmulR x1 x2 x5 (red x y f) y_2).snd.snd = (cmulR x1 x2 x5 (red x y f) (256 : Nat)).snd.snd ∧ True) ∧ (0 : Int) = (0 : Int))) := by kernel_rfl
-- END VC

end Go.Proofs.YtbfcccoeekonlaaGreatDoor
end

section
/-
  Texts of numbers: reckoned by the kernel. (Laid by program.)
-/
namespace Go.Proofs.YtbfcccoeekonlaaGreatDoor
open Go.Sx
set_option maxRecDepth 100000
end Go.Proofs.YtbfcccoeekonlaaGreatDoor
end

section
/-
  What powers of ten, and bytes, come to: reckoned by the kernel. (Laid by program.)
-/
namespace Go.Proofs.YtbfcccoeekonlaaGreatDoor
open Go.Sx
set_option maxRecDepth 100000
def wordF (a b : Int) (s : ByteArray) (j : Nat) : Int := if j = 31 then IntKind.u8.wrap b else if j = 30 then IntKind.u8.wrap a else if j < s.size then ((s.data.getD j 0).toNat : Int) else 0
def wordG (_ a b : Int) (s : ByteArray) : SV := .one (sBy 32 (wordF a b s))
-- VC vc_Bytes HASH cc146449d67d07bd
theorem vc_Bytes (a : Nat) :
    Owes Tryz.prog Cx.none [] 400 Tryz.f43 [sU a] (bytesG a) =
    (Go.IntKind.u8.wrap ((Go.Sx.limb a (3 : Nat)).fdiv (72057594037927936 : Int)) = Go.Sx.by8 a (31 : Nat) ∧ Go.IntKind.u8.wrap ((Go.Sx.limb a (3 : Nat)).fdiv (281474976710656 : Int)) = Go.Sx.by8 a (30 : Nat) ∧ Go.IntKind.u8.wrap ((Go.Sx.limb a (3 : Nat)).fdiv (1099511627776 : Int)) = Go.Sx.by8 a (29 : Nat) ∧ Go.IntKind.u8.wrap ((Go.Sx.limb a (3 : Nat)).fdiv (4294967296 : Int)) = Go.Sx.by8 a (28 : Nat) ∧ Go.IntKind.u8.wrap ((Go.Sx.limb a (3 : Nat)).fdiv (16777216 : Int)) = Go.Sx.by8 a (27 : Nat) ∧ Go.IntKind.u8.wrap ((Go.Sx.limb a (3 : Nat)).fdiv (65536 : Int)) = Go.Sx.by8 a (26 : Nat) ∧ Go.IntKind.u8.wrap ((Go.Sx.limb a (3 : Nat)).fdiv (256 : Int)) = Go.Sx.by8 a (25 : Nat) ∧ Go.IntKind.u8.wrap ((Go.Sx.limb a (3 : Nat)).fdiv (1 : Int)) = Go.Sx.by8 a (24 : Nat) ∧ Go.IntKind.u8.wrap ((Go.Sx.limb a (2 : Nat)).fdiv (72057594037927936 : Int)) = Go.Sx.by8 a (23 : Nat) ∧ Go.IntKind.u8.wrap ((Go.Sx.limb a (2 : Nat)).fdiv (281474976710656 : Int)) = Go.Sx.by8 a (22 : Nat) ∧ Go.IntKind.u8.wrap ((Go.Sx.limb a (2 : Nat)).fdiv (1099511627776 : Int)) = Go.Sx.by8 a (21 : Nat) ∧ Go.IntKind.u8.wrap ((Go.Sx.limb a (2 : Nat)).fdiv (4294967296 : Int)) = Go.Sx.by8 a (20 : Nat) ∧ Go.IntKind.u8.wrap ((Go.Sx.limb a (2 : Nat)).fdiv (16777216 : Int)) = Go.Sx.by8 a (19 : Nat) ∧ Go.IntKind.u8.wrap ((Go.Sx.limb a (2 : Nat)).fdiv (65536 : Int)) = Go.Sx.by8 a (18 : Nat) ∧ Go.IntKind.u8.wrap ((Go.Sx.limb a (2 : Nat)).fdiv (256 : Int)) = Go.Sx.by8 a (17 : Nat) ∧ Go.IntKind.u8.wrap ((Go.Sx.limb a (2 : Nat)).fdiv (1 : Int)) = Go.Sx.by8 a (16 : Nat) ∧ Go.IntKind.u8.wrap ((Go.Sx.limb a (1 : Nat)).fdiv (72057594037927936 : Int)) = Go.Sx.by8 a (15 : Nat) ∧ Go.IntKind.u8.wrap ((Go.Sx.limb a (1 : Nat)).fdiv (281474976710656 : Int)) = Go.Sx.by8 a (14 : Nat) ∧ Go.IntKind.u8.wrap ((Go.Sx.limb a (1 : Nat)).fdiv (1099511627776 : Int)) = Go.Sx.by8 a (13 : Nat) ∧ Go.IntKind.u8.wrap ((Go.Sx.limb a (1 : Nat)).fdiv (4294967296 : Int)) = Go.Sx.by8 a (12 : Nat) ∧ Go.IntKind.u8.wrap ((Go.Sx.limb a (1 : Nat)).fdiv (16777216 : Int)) = Go.Sx.by8 a (11 : Nat) ∧ Go.IntKind.u8.wrap ((Go.Sx.limb a (1 : Nat)).fdiv (65536 : Int)) = Go.Sx.by8 a (10 : Nat) ∧ Go.IntKind.u8.wrap ((Go.Sx.limb a (1 : Nat)).fdiv (256 : Int)) = Go.Sx.by8 a (9 : Nat) ∧ Go.IntKind.u8.wrap ((Go.Sx.limb a (1 : Nat)).fdiv (1 : Int)) = Go.Sx.by8 a (8 : Nat) ∧ Go.IntKind.u8.wrap ((Go.Sx.limb a (0 : Nat)).fdiv (72057594037927936 : Int)) = Go.Sx.by8 a (7 : Nat) ∧ Go.IntKind.u8.wrap ((Go.Sx.limb a (0 : Nat)).fdiv (281474976710656 : Int)) = Go.Sx.by8 a (6 : Nat) ∧ Go.IntKind.u8.wrap ((Go.Sx.limb a (0 : Nat)).fdiv (1099511627776 : Int)) = Go.Sx.by8 a (5 : Nat) ∧ Go.IntKind.u8.wrap ((Go.Sx.limb a (0 : Nat)).fdiv (4294967296 : Int)) = Go.Sx.by8 a (4 : Nat) ∧ Go.IntKind.u8.wrap ((Go.Sx.limb a (0 : Nat)).fdiv (16777216 : Int)) = Go.Sx.by8 a (3 : Nat) ∧ Go.IntKind.u8.wrap ((Go.Sx.limb a (0 : Nat)).fdiv (65536 : Int)) = Go.Sx.by8 a (2 : Nat) ∧ Go.IntKind.u8.wrap ((Go.Sx.limb a (0 : Nat)).fdiv (256 : Int)) = Go.Sx.by8 a (1 : Nat) ∧ Go.IntKind.u8.wrap ((Go.Sx.limb a (0 : Nat)).fdiv (1 : Int)) = Go.Sx.by8 a (0 : Nat) ∧ True) := by kernel_rfl
-- END VC
-- VC vc_From HASH 9303699a2049e94b
theorem vc_From (g : Nat → Int) :
    Owes Tryz.prog Cx.none [] 400 Tryz.f17 [sBy 32 g] (fromG g) =
    (let x1 : Int := Go.IntKind.u64.wrap (↑(BitVec.ofInt (64 : Nat) (Go.IntKind.u64.wrap (↑(BitVec.ofInt (64 : Nat) (Go.IntKind.u64.wrap (↑(BitVec.ofInt (64 : Nat) (Go.IntKind.u64.wrap (↑(BitVec.ofInt (64 : Nat) (Go.IntKind.u64.wrap (↑(BitVec.ofInt (64 : Nat) (Go.IntKind.u64.wrap (↑(BitVec.ofInt (64 : Nat) (Go.IntKind.u64.wrap (↑(BitVec.ofInt (64 : Nat) (Go.IntKind.u64.wrap (↑(BitVec.ofInt (64 : Nat) (0 : Int) ||| BitVec.ofInt (64 : Nat) (Go.IntKind.u64.wrap (Go.IntKind.u64.wrap (g (31 : Nat)) * (1 : Int)))).toNat : Int)) ||| BitVec.ofInt (64 : Nat) (Go.IntKind.u64.wrap (Go.IntKind.u64.wrap (g (30 : Nat)) * (256 : Int)))).toNat : Int)) ||| BitVec.ofInt (64 : Nat) (Go.IntKind.u64.wrap (Go.IntKind.u64.wrap (g (29 : Nat)) * (65536 : Int)))).toNat : Int)) ||| BitVec.ofInt (64 : Nat) (Go.IntKind.u64.wrap (Go.IntKind.u64.wrap (g (28 : Nat)) * (16777216 : Int)))).toNat : Int)) ||| BitVec.ofInt (64 : Nat) (Go.IntKind.u64.wrap (Go.IntKind.u64.wrap (g (27 : Nat)) * (4294967296 : Int)))).toNat : Int)) ||| BitVec.ofInt (64 : Nat) (Go.IntKind.u64.wrap (Go.IntKind.u64.wrap (g (26 : Nat)) * (1099511627776 : Int)))).toNat : Int)) ||| BitVec.ofInt (64 : Nat) (Go.IntKind.u64.wrap (Go.IntKind.u64.wrap (g (25 : Nat)) * (281474976710656 : Int)))).toNat : Int)) ||| BitVec.ofInt (64 : Nat) (Go.IntKind.u64.wrap (Go.IntKind.u64.wrap (g (24 : Nat)) * (72057594037927936 : Int)))).toNat : Int); let x2 : Int := Go.IntKind.u64.wrap (↑(BitVec.ofInt (64 : Nat) (Go.IntKind.u64.wrap (↑(BitVec.ofInt (64 : Nat) (Go.IntKind.u64.wrap (↑(BitVec.ofInt (64 : Nat) (Go.IntKind.u64.wrap (↑(BitVec.ofInt (64 : Nat) (Go.IntKind.u64.wrap (↑(BitVec.ofInt (64 : Nat) (Go.IntKind.u64.wrap (↑(BitVec.ofInt (64 : Nat) (Go.IntKind.u64.wrap (↑(BitVec.ofInt (64 : Nat) (Go.IntKind.u64.wrap (↑(BitVec.ofInt (64 : Nat) (0 : Int) ||| BitVec.ofInt (64 : Nat) (Go.IntKind.u64.wrap (Go.IntKind.u64.wrap (g (23 : Nat)) * (1 : Int)))).toNat : Int)) ||| BitVec.ofInt (64 : Nat) (Go.IntKind.u64.wrap (Go.IntKind.u64.wrap (g (22 : Nat)) * (256 : Int)))).toNat : Int)) ||| BitVec.ofInt (64 : Nat) (Go.IntKind.u64.wrap (Go.IntKind.u64.wrap (g (21 : Nat)) * (65536 : Int)))).toNat : Int)) ||| BitVec.ofInt (64 : Nat) (Go.IntKind.u64.wrap (Go.IntKind.u64.wrap (g (20 : Nat)) * (16777216 : Int)))).toNat : Int)) ||| BitVec.ofInt (64 : Nat) (Go.IntKind.u64.wrap (Go.IntKind.u64.wrap (g (19 : Nat)) * (4294967296 : Int)))).toNat : Int)) ||| BitVec.ofInt (64 : Nat) (Go.IntKind.u64.wrap (Go.IntKind.u64.wrap (g (18 : Nat)) * (1099511627776 : Int)))).toNat : Int)) ||| BitVec.ofInt (64 : Nat) (Go.IntKind.u64.wrap (Go.IntKind.u64.wrap (g (17 : Nat)) * (281474976710656 : Int)))).toNat : Int)) ||| BitVec.ofInt (64 : Nat) (Go.IntKind.u64.wrap (Go.IntKind.u64.wrap (g (16 : Nat)) * (72057594037927936 : Int)))).toNat : Int); let x3 : Int := Go.IntKind.u64.wrap (↑(BitVec.ofInt (64 : Nat) (Go.IntKind.u64.wrap (↑(BitVec.ofInt (64 : Nat) (Go.IntKind.u64.wrap (↑(BitVec.ofInt (64 : Nat) (Go.IntKind.u64.wrap (↑(BitVec.ofInt (64 : Nat) (Go.IntKind.u64.wrap (↑(BitVec.ofInt (64 : Nat) (Go.IntKind.u64.wrap (↑(BitVec.ofInt (64 : Nat) (Go.IntKind.u64.wrap (↑(BitVec.ofInt (64 : Nat) (Go.IntKind.u64.wrap (↑(BitVec.ofInt (64 : Nat) (0 : Int) ||| BitVec.ofInt (64 : Nat) (Go.IntKind.u64.wrap (Go.IntKind.u64.wrap (g (15 : Nat)) * (1 : Int)))).toNat : Int)) ||| BitVec.ofInt (64 : Nat) (Go.IntKind.u64.wrap (Go.IntKind.u64.wrap (g (14 : Nat)) * (256 : Int)))).toNat : Int)) ||| BitVec.ofInt (64 : Nat) (Go.IntKind.u64.wrap (Go.IntKind.u64.wrap (g (13 : Nat)) * (65536 : Int)))).toNat : Int)) ||| BitVec.ofInt (64 : Nat) (Go.IntKind.u64.wrap (Go.IntKind.u64.wrap (g (12 : Nat)) * (16777216 : Int)))).toNat : Int)) ||| BitVec.ofInt (64 : Nat) (Go.IntKind.u64.wrap (Go.IntKind.u64.wrap (g (11 : Nat)) * (4294967296 : Int)))).toNat : Int)) ||| BitVec.ofInt (64 : Nat) (Go.IntKind.u64.wrap (Go.IntKind.u64.wrap (g (10 : Nat)) * (1099511627776 : Int)))).toNat : Int)) ||| BitVec.ofInt (64 : Nat) (Go.IntKind.u64.wrap (Go.IntKind.u64.wrap (g (9 : Nat)) * (281474976710656 : Int)))).toNat : Int)) ||| BitVec.ofInt (64 : Nat) (Go.IntKind.u64.wrap (Go.IntKind.u64.wrap (g (8 : Nat)) * (72057594037927936 : Int)))).toNat : Int); let x4 : Int := Go.IntKind.u64.wrap (↑(BitVec.ofInt (64 : Nat) (Go.IntKind.u64.wrap (↑(BitVec.ofInt (64 : Nat) (Go.IntKind.u64.wrap (↑(BitVec.ofInt (64 : Nat) (Go.IntKind.u64.wrap (↑(BitVec.ofInt (64 : Nat) (Go.IntKind.u64.wrap (↑(BitVec.ofInt (64 : Nat) (Go.IntKind.u64.wrap (↑(BitVec.ofInt (64 : Nat) (Go.IntKind.u64.wrap (↑(BitVec.ofInt (64 : Nat) (Go.IntKind.u64.wrap (↑(BitVec.ofInt (64 : Nat) (0 : Int) ||| BitVec.ofInt (64 : Nat) (Go.IntKind.u64.wrap (Go.IntKind.u64.wrap (g (7 : Nat)) * (1 : Int)))).toNat : Int)) ||| BitVec.ofInt (64 : Nat) (Go.IntKind.u64.wrap (Go.IntKind.u64.wrap (g (6 : Nat)) * (256 : Int)))).toNat : Int)) ||| BitVec.ofInt (64 : Nat) (Go.IntKind.u64.wrap (Go.IntKind.u64.wrap (g (5 : Nat)) * (65536 : Int)))).toNat : Int)) ||| BitVec.ofInt (64 : Nat) (Go.IntKind.u64.wrap (Go.IntKind.u64.wrap (g (4 : Nat)) * (16777216 : Int)))).toNat : Int)) ||| BitVec.ofInt (64 : Nat) (Go.IntKind.u64.wrap (Go.IntKind.u64.wrap (g (3 : Nat)) * (4294967296 : Int)))).toNat : Int)) ||| BitVec.ofInt (64 : Nat) (Go.IntKind.u64.wrap (Go.IntKind.u64.wrap (g (2 : Nat)) * (1099511627776 : Int)))).toNat : Int)) ||| BitVec.ofInt (64 : Nat) (Go.IntKind.u64.wrap (Go.IntKind.u64.wrap (g (1 : Nat)) * (281474976710656 : Int)))).toNat : Int)) ||| BitVec.ofInt (64 : Nat) (Go.IntKind.u64.wrap (Go.IntKind.u64.wrap (g (0 : Nat)) * (72057594037927936 : Int)))).toNat : Int); ((0 : Int) ≤ x1 ∧ x1 < (18446744073709551616 : Int)) ∧ ((0 : Int) ≤ x2 ∧ x2 < (18446744073709551616 : Int)) ∧ ((0 : Int) ≤ x3 ∧ x3 < (18446744073709551616 : Int)) ∧ ((0 : Int) ≤ x4 ∧ x4 < (18446744073709551616 : Int)) ∧ Go.Sx.join x1 x2 x3 x4 % Go.Sx.M256 = Go.Sx.fromN g (32 : Nat) % Go.Sx.M256 ∧ True) := by kernel_rfl
-- END VC
-- VC vc_word HASH 1db03f93fdcbfd21
theorem vc_word (k a b : Int) (s : ByteArray) :
    Owes Tryz.prog Cx.none [] 400 Tryz.f25 [sRaw k a b s] (wordG k a b s) =
    ((if (0 : Nat) < s.size then (↑(s.data.getD (0 : Nat) (0 : UInt8)).toNat : Int) else (0 : Int)) = wordF a b s (0 : Nat) ∧ (if (1 : Nat) < s.size then (↑(s.data.getD (1 : Nat) (0 : UInt8)).toNat : Int) else (0 : Int)) = wordF a b s (1 : Nat) ∧ (if (2 : Nat) < s.size then (↑(s.data.getD (2 : Nat) (0 : UInt8)).toNat : Int) else (0 : Int)) = wordF a b s (2 : Nat) ∧ (if (3 : Nat) < s.size then (↑(s.data.getD (3 : Nat) (0 : UInt8)).toNat : Int) else (0 : Int)) = wordF a b s (3 : Nat) ∧ (if (4 : Nat) < s.size then (↑(s.data.getD (4 : Nat) (0 : UInt8)).toNat : Int) else (0 : Int)) = wordF a b s (4 : Nat) ∧ (if (5 : Nat) < s.size then (↑(s.data.getD (5 : Nat) (0 : UInt8)).toNat : Int) else (0 : Int)) = wordF a b s (5 : Nat) ∧ (if (6 : Nat) < s.size then (↑(s.data.getD (6 : Nat) (0 : UInt8)).toNat : Int) else (0 : Int)) = wordF a b s (6 : Nat) ∧ (if (7 : Nat) < s.size then (↑(s.data.getD (7 : Nat) (0 : UInt8)).toNat : Int) else (0 : Int)) = wordF a b s (7 : Nat) ∧ (if (8 : Nat) < s.size then (↑(s.data.getD (8 : Nat) (0 : UInt8)).toNat : Int) else (0 : Int)) = wordF a b s (8 : Nat) ∧ (if (9 : Nat) < s.size then (↑(s.data.getD (9 : Nat) (0 : UInt8)).toNat : Int) else (0 : Int)) = wordF a b s (9 : Nat) ∧ (if (10 : Nat) < s.size then (↑(s.data.getD (10 : Nat) (0 : UInt8)).toNat : Int) else (0 : Int)) = wordF a b s (10 : Nat) ∧ (if (11 : Nat) < s.size then (↑(s.data.getD (11 : Nat) (0 : UInt8)).toNat : Int) else (0 : Int)) = wordF a b s (11 : Nat) ∧ (if (12 : Nat) < s.size then (↑(s.data.getD (12 : Nat) (0 : UInt8)).toNat : Int) else (0 : Int)) = wordF a b s (12 : Nat) ∧ (if (13 : Nat) < s.size then (↑(s.data.getD (13 : Nat) (0 : UInt8)).toNat : Int) else (0 : Int)) = wordF a b s (13 : Nat) ∧ (if (14 : Nat) < s.size then (↑(s.data.getD (14 : Nat) (0 : UInt8)).toNat : Int) else (0 : Int)) = wordF a b s (14 : Nat) ∧ (if (15 : Nat) < s.size then (↑(s.data.getD (15 : Nat) (0 : UInt8)).toNat : Int) else (0 : Int)) = wordF a b s (15 : Nat) ∧ (if (16 : Nat) < s.size then (↑(s.data.getD (16 : Nat) (0 : UInt8)).toNat : Int) else (0 : Int)) = wordF a b s (16 : Nat) ∧ (if (17 : Nat) < s.size then (↑(s.data.getD (17 : Nat) (0 : UInt8)).toNat : Int) else (0 : Int)) = wordF a b s (17 : Nat) ∧ (if (18 : Nat) < s.size then (↑(s.data.getD (18 : Nat) (0 : UInt8)).toNat : Int) else (0 : Int)) = wordF a b s (18 : Nat) ∧ (if (19 : Nat) < s.size then (↑(s.data.getD (19 : Nat) (0 : UInt8)).toNat : Int) else (0 : Int)) = wordF a b s (19 : Nat) ∧ (if (20 : Nat) < s.size then (↑(s.data.getD (20 : Nat) (0 : UInt8)).toNat : Int) else (0 : Int)) = wordF a b s (20 : Nat) ∧ (if (21 : Nat) < s.size then (↑(s.data.getD (21 : Nat) (0 : UInt8)).toNat : Int) else (0 : Int)) = wordF a b s (21 : Nat) ∧ (if (22 : Nat) < s.size then (↑(s.data.getD (22 : Nat) (0 : UInt8)).toNat : Int) else (0 : Int)) = wordF a b s (22 : Nat) ∧ (if (23 : Nat) < s.size then (↑(s.data.getD (23 : Nat) (0 : UInt8)).toNat : Int) else (0 : Int)) = wordF a b s (23 : Nat) ∧ (if (24 : Nat) < s.size then (↑(s.data.getD (24 : Nat) (0 : UInt8)).toNat : Int) else (0 : Int)) = wordF a b s (24 : Nat) ∧ (if (25 : Nat) < s.size then (↑(s.data.getD (25 : Nat) (0 : UInt8)).toNat : Int) else (0 : Int)) = wordF a b s (25 : Nat) ∧ (if (26 : Nat) < s.size then (↑(s.data.getD (26 : Nat) (0 : UInt8)).toNat : Int) else (0 : Int)) = wordF a b s (26 : Nat) ∧ (if (27 : Nat) < s.size then (↑(s.data.getD (27 : Nat) (0 : UInt8)).toNat : Int) else (0 : Int)) = wordF a b s (27 : Nat) ∧ (if (28 : Nat) < s.size then (↑(s.data.getD (28 : Nat) (0 : UInt8)).toNat : Int) else (0 : Int)) = wordF a b s (28 : Nat) ∧ (if (29 : Nat) < s.size then (↑(s.data.getD (29 : Nat) (0 : UInt8)).toNat : Int) else (0 : Int)) = wordF a b s (29 : Nat) ∧ Go.IntKind.u8.wrap a = wordF a b s (30 : Nat) ∧ Go.IntKind.u8.wrap b = wordF a b s (31 : Nat) ∧ True) := by kernel_rfl
-- END VC
end Go.Proofs.YtbfcccoeekonlaaGreatDoor
end

section
/-
  Package wide's functions, each held to its card: the numbers' side.
-/
namespace Go.Proofs.YtbfcccoeekonlaaGreatDoor
open Go.Sx

theorem split4 (n : Nat) : ∃ a b c d : Nat, limb n 0 = a ∧ limb n 1 = b ∧ limb n 2 = c ∧ limb n 3 = d ∧ a < 18446744073709551616 ∧ b < 18446744073709551616 ∧ c < 18446744073709551616 ∧ d < 18446744073709551616 ∧
    n % M256 = a + 18446744073709551616 * b + 340282366920938463463374607431768211456 * c + 6277101735386680763835789423207666416102355444464034512896 * d := by
  refine ⟨n / 2 ^ (64 * 0) % 2 ^ 64, n / 2 ^ (64 * 1) % 2 ^ 64, n / 2 ^ (64 * 2) % 2 ^ 64, n / 2 ^ (64 * 3) % 2 ^ 64, rfl, rfl, rfl, rfl, Nat.mod_lt _ (by decide), Nat.mod_lt _ (by decide), Nat.mod_lt _ (by decide), Nat.mod_lt _ (by decide), ?_⟩
  rw [limbs_sum]
  simp only [Nat.mul_zero, Nat.pow_zero, Nat.div_one, Nat.mul_one, Nat.reduceMul, Nat.reducePow]

theorem M256_eq : M256 = 115792089237316195423570985008687907853269984665640564039457584007913129639936 := by decide

theorem carry_step (x y c : Nat) (hx : x < 18446744073709551616) (hy : y < 18446744073709551616) (hc : c ≤ 1) :
    ∃ s d : Nat, ((x : Int) + y + c) % 18446744073709551616 = s ∧ ((x : Int) + y + c) / 18446744073709551616 = d ∧ s < 18446744073709551616 ∧ d ≤ 1 ∧ x + y + c = s + 18446744073709551616 * d :=
  ⟨(x + y + c) % 18446744073709551616, (x + y + c) / 18446744073709551616, by omega, by omega, by omega, by omega, by omega⟩

theorem divmod_of {A S c M : Nat} (h : A = S + M * c) (hS : S < M) : A % M = S ∧ A / M = c := by
  subst h
  rw [Nat.add_mul_mod_self_left, Nat.mod_eq_of_lt hS, Nat.add_mul_div_left _ _ (by omega), Nat.div_eq_of_lt hS]
  exact ⟨rfl, by omega⟩

theorem ok_plus : ∀ a b, Owes Tryz.prog cxPlus [] 100 Tryz.f73 [sU a, sU b] (plusG a b) := by
  intro a b
  rw [vc_plus]
  have hab := Nat.add_mod a b M256
  obtain ⟨a0, a1, a2, a3, e0, e1, e2, e3, h0, h1, h2, h3, ha⟩ := split4 a
  obtain ⟨b0, b1, b2, b3, f0, f1, f2, f3, k0, k1, k2, k3, hb⟩ := split4 b
  rw [e0, e1, e2, e3, f0, f1, f2, f3]
  rw [ha, hb] at hab
  rw [ha, hb]
  obtain ⟨s0, c0, p0, q0, r0, t0, w0⟩ := carry_step a0 b0 0 h0 k0 (by omega)
  obtain ⟨s1, c1, p1, q1, r1, t1, w1⟩ := carry_step a1 b1 c0 h1 k1 t0
  obtain ⟨s2, c2, p2, q2, r2, t2, w2⟩ := carry_step a2 b2 c1 h2 k2 t1
  obtain ⟨s3, c3, p3, q3, r3, t3, w3⟩ := carry_step a3 b3 c2 h3 k3 t2
  simp only [Int.natCast_zero] at p0 q0
  obtain ⟨m1, m2⟩ := divmod_of (A := a0 + 18446744073709551616 * a1 + 340282366920938463463374607431768211456 * a2 + 6277101735386680763835789423207666416102355444464034512896 * a3 +
    (b0 + 18446744073709551616 * b1 + 340282366920938463463374607431768211456 * b2 + 6277101735386680763835789423207666416102355444464034512896 * b3))
    (S := s0 + 2 ^ 64 * s1 + 2 ^ 128 * s2 + 2 ^ 192 * s3) (c := c3) (M := M256) (by rw [M256_eq]; omega) (by rw [M256_eq]; omega)
  rw [m1] at hab
  have hS : (s0 + 2 ^ 64 * s1 + 2 ^ 128 * s2 + 2 ^ 192 * s3) % M256 = s0 + 2 ^ 64 * s1 + 2 ^ 128 * s2 + 2 ^ 192 * s3 := Nat.mod_eq_of_lt (by rw [M256_eq]; omega)
  simp only [q0, q1, q2, q3, p0, p1, p2, p3, join, Int.toNat_natCast, and_true, hab, hS, m2]
  clear ha hb hab hS m1 m2 p0 p1 p2 p3 q0 q1 q2 q3 w0 w1 w2 w3 e0 e1 e2 e3 f0 f1 f2 f3
  refine ⟨?_, ?_, ?_, ?_, ?_, ?_, ?_, ?_, ?_, ?_, ?_, ?_, ?_, ?_, ?_, ?_⟩ <;> omega

theorem borrow_step (x y c : Nat) (hx : x < 18446744073709551616) (hy : y < 18446744073709551616) (hc : c ≤ 1) :
    ∃ s d : Nat, ((x : Int) - y - c) % 18446744073709551616 = s ∧ -(((x : Int) - y - c) / 18446744073709551616) = d ∧ s < 18446744073709551616 ∧ d ≤ 1 ∧ x + 18446744073709551616 * d = s + y + c :=
  ⟨(((x : Int) - y - c) % 18446744073709551616).toNat, (-(((x : Int) - y - c) / 18446744073709551616)).toNat, by omega, by omega, by omega, by omega, by omega⟩

theorem ok_less : ∀ a b, Owes Tryz.prog cxLess [] 100 Tryz.f35 [sU a, sU b] (lessG a b) := by
  intro a b
  rw [vc_less]
  obtain ⟨a0, a1, a2, a3, e0, e1, e2, e3, h0, h1, h2, h3, ha⟩ := split4 a
  obtain ⟨b0, b1, b2, b3, f0, f1, f2, f3, k0, k1, k2, k3, hb⟩ := split4 b
  rw [e0, e1, e2, e3, f0, f1, f2, f3, ha, hb]
  obtain ⟨s0, c0, p0, q0, r0, t0, w0⟩ := borrow_step a0 b0 0 h0 k0 (by omega)
  obtain ⟨s1, c1, p1, q1, r1, t1, w1⟩ := borrow_step a1 b1 c0 h1 k1 t0
  obtain ⟨s2, c2, p2, q2, r2, t2, w2⟩ := borrow_step a2 b2 c1 h2 k2 t1
  obtain ⟨s3, c3, p3, q3, r3, t3, w3⟩ := borrow_step a3 b3 c2 h3 k3 t2
  simp only [Int.natCast_zero] at p0 q0
  have key : a0 + 18446744073709551616 * a1 + 340282366920938463463374607431768211456 * a2 + 6277101735386680763835789423207666416102355444464034512896 * a3 + M256 * c3 =
    (s0 + 2 ^ 64 * s1 + 2 ^ 128 * s2 + 2 ^ 192 * s3) + (b0 + 18446744073709551616 * b1 + 340282366920938463463374607431768211456 * b2 + 6277101735386680763835789423207666416102355444464034512896 * b3) := by
    rw [M256_eq]; omega
  simp only [q0, q1, q2, q3, p0, p1, p2, p3, join, Int.toNat_natCast, and_true]
  generalize hA : a0 + 18446744073709551616 * a1 + 340282366920938463463374607431768211456 * a2 + 6277101735386680763835789423207666416102355444464034512896 * a3 = A at *
  generalize hB : b0 + 18446744073709551616 * b1 + 340282366920938463463374607431768211456 * b2 + 6277101735386680763835789423207666416102355444464034512896 * b3 = B at *
  have hA' : A < M256 := by rw [M256_eq]; omega
  have hB' : B < M256 := by rw [M256_eq]; omega
  have hS' : s0 + 2 ^ 64 * s1 + 2 ^ 128 * s2 + 2 ^ 192 * s3 < M256 := by rw [M256_eq]; omega
  generalize s0 + 2 ^ 64 * s1 + 2 ^ 128 * s2 + 2 ^ 192 * s3 = S at *
  rw [Nat.mod_eq_of_lt hS']
  have hc3 : c3 = 0 ∨ c3 = 1 := by omega
  have fin : S = (A + M256 - B) % M256 ∧ (c3 : Int) = if A < B then 1 else 0 := by
    rcases hc3 with rfl | rfl
    · have : ¬ A < B := by omega
      rw [if_neg this]
      refine ⟨?_, rfl⟩
      rw [show A + M256 - B = S + M256 by omega, Nat.add_mod_right, Nat.mod_eq_of_lt hS']
    · have : A < B := by omega
      rw [if_pos this]
      refine ⟨?_, rfl⟩
      rw [show A + M256 - B = S by omega, Nat.mod_eq_of_lt hS']
  obtain ⟨g1, g2⟩ := fin
  rw [← g1, ← g2]
  clear ha hb hA hB key hA' hB' hS' g1 g2 p0 p1 p2 p3 q0 q1 q2 q3 w0 w1 w2 w3 e0 e1 e2 e3 f0 f1 f2 f3
  repeat' apply And.intro
  all_goals first | rfl | omega

theorem ok_Add : ∀ a b, Owes Tryz.prog cxAdd [] 100 Tryz.f50 [sU a, sU b] (addG a b) := by
  intro a b
  rw [vc_Add]
  refine ⟨⟨rfl, trivial⟩, ?_⟩
  have hM : 0 < M256 := by decide
  have h1 := Nat.mod_lt a hM
  have h2 := Nat.mod_lt b hM
  rw [Bool.eq_iff_iff]
  simp only [bne_iff_ne, ne_eq, decide_eq_true_eq]
  by_cases h : M256 ≤ a % M256 + b % M256
  · have : (a % M256 + b % M256) / M256 ≠ 0 := by
      have := Nat.div_pos h hM
      omega
    simp only [h, iff_true]; omega
  · have : (a % M256 + b % M256) / M256 = 0 := Nat.div_eq_of_lt (by omega)
    simp [h, this]

theorem ok_Sub : ∀ a b, Owes Tryz.prog cxSub [] 100 Tryz.f14 [sU a, sU b] (subG a b) := by
  intro a b
  rw [vc_Sub]
  refine ⟨⟨rfl, trivial⟩, ?_⟩
  by_cases h : a % M256 < b % M256 <;> simp [h]

theorem ok_Cmp : ∀ a b, Owes Tryz.prog Cx.none [] 100 Tryz.f15 [sU a, sU b] (cmpG a b) := by
  intro a b
  rw [vc_Cmp]
  obtain ⟨a0, a1, a2, a3, e0, e1, e2, e3, h0, h1, h2, h3, ha⟩ := split4 a
  obtain ⟨b0, b1, b2, b3, f0, f1, f2, f3, k0, k1, k2, k3, hb⟩ := split4 b
  rw [e0, e1, e2, e3, f0, f1, f2, f3]
  simp only [cmpN, ha, hb, decide_eq_true_eq, decide_eq_false_iff_not]
  clear e0 e1 e2 e3 f0 f1 f2 f3 ha hb
  refine ⟨fun h => ?_, fun h => ⟨fun h' => ?_, fun h' => ⟨fun g => ?_, fun g => ⟨fun g' => ?_, fun g' => ⟨fun i => ?_, fun i => ⟨fun i' => ?_, fun i' => ⟨fun j => ?_, fun j => ⟨fun j' => ?_, fun j' => ?_⟩⟩⟩⟩⟩⟩⟩⟩
  all_goals
    split
    · omega
    · first
      | omega
      | (split <;> omega)

end Go.Proofs.YtbfcccoeekonlaaGreatDoor
end

section
/-
  The laws' drawn numbers, and the laws of sums: the numbers' side.
-/
namespace Go.Proofs.YtbfcccoeekonlaaGreatDoor
open Go.Sx

end Go.Proofs.YtbfcccoeekonlaaGreatDoor
end

section
/-
  Products: the numbers' side.
-/
namespace Go.Proofs.YtbfcccoeekonlaaGreatDoor
open Go.Sx

theorem wrap_id {n : Int} (h : 0 ≤ n ∧ n < 18446744073709551616) : IntKind.u64.wrap n = n := by
  unfold IntKind.wrap
  simp [IntKind.signed, IntKind.bits]
  omega

theorem limbs_int (a : Nat) : ((a % M256 : Nat) : Int) = limb a 0 + 18446744073709551616 * limb a 1 + 340282366920938463463374607431768211456 * limb a 2 + 6277101735386680763835789423207666416102355444464034512896 * limb a 3 := by
  obtain ⟨a0, a1, a2, a3, e0, e1, e2, e3, _, _, _, _, ha⟩ := split4 a
  rw [ha, e0, e1, e2, e3]
  omega
theorem mul_fin (a b : Nat) (c0 c1 c2 c3 c4 c5 c6 c7 : Int) (h0 : 0 ≤ c0 ∧ c0 < 18446744073709551616) (h1 : 0 ≤ c1 ∧ c1 < 18446744073709551616) (h2 : 0 ≤ c2 ∧ c2 < 18446744073709551616) (h3 : 0 ≤ c3 ∧ c3 < 18446744073709551616)
    (h4 : 0 ≤ c4 ∧ c4 < 18446744073709551616) (h5 : 0 ≤ c5 ∧ c5 < 18446744073709551616) (h6 : 0 ≤ c6 ∧ c6 < 18446744073709551616) (h7 : 0 ≤ c7 ∧ c7 < 18446744073709551616)
    (h : ((a % M256 : Nat) : Int) * ((b % M256 : Nat) : Int) = c0 + 18446744073709551616 * c1 + 340282366920938463463374607431768211456 * c2 + 6277101735386680763835789423207666416102355444464034512896 * c3 + 115792089237316195423570985008687907853269984665640564039457584007913129639936 * (c4 + 18446744073709551616 * c5 + 340282366920938463463374607431768211456 * c6 + 6277101735386680763835789423207666416102355444464034512896 * c7)) :
    join c0 c1 c2 c3 % M256 = a * b % M256 ∧ join c4 c5 c6 c7 % M256 = a % M256 * (b % M256) / M256 % M256 := by
  obtain ⟨c0, rfl⟩ := Int.eq_ofNat_of_zero_le h0.1
  obtain ⟨c1, rfl⟩ := Int.eq_ofNat_of_zero_le h1.1
  obtain ⟨c2, rfl⟩ := Int.eq_ofNat_of_zero_le h2.1
  obtain ⟨c3, rfl⟩ := Int.eq_ofNat_of_zero_le h3.1
  obtain ⟨c4, rfl⟩ := Int.eq_ofNat_of_zero_le h4.1
  obtain ⟨c5, rfl⟩ := Int.eq_ofNat_of_zero_le h5.1
  obtain ⟨c6, rfl⟩ := Int.eq_ofNat_of_zero_le h6.1
  obtain ⟨c7, rfl⟩ := Int.eq_ofNat_of_zero_le h7.1
  have hm := Nat.mul_mod a b M256
  rw [← Int.natCast_mul] at h
  generalize a % M256 * (b % M256) = g at h hm
  have e : g = join c0 c1 c2 c3 + M256 * join c4 c5 c6 c7 := by
    unfold join
    rw [M256_eq]
    simp only [Int.toNat_natCast, Nat.reducePow]
    omega
  have hlt : join c0 c1 c2 c3 < M256 := join_lt (by omega) (by omega) (by omega) (by omega)
  obtain ⟨k1, k2⟩ := divmod_of e hlt
  refine ⟨by rw [hm, k1, Nat.mod_eq_of_lt hlt], by rw [k2]⟩
theorem mac (X O P : Int) (hX : 0 ≤ X ∧ X ≤ 340282366920938463426481119284349108225) (hO : 0 ≤ O ∧ O < 18446744073709551616) (hP : 0 ≤ P ∧ P < 18446744073709551616) :
    X + O + P = (P + (X % 18446744073709551616 + O + 0) % 18446744073709551616 + 0) % 18446744073709551616 +
      18446744073709551616 * IntKind.u64.wrap (IntKind.u64.wrap (X / 18446744073709551616 + (X % 18446744073709551616 + O + 0) / 18446744073709551616) + (P + (X % 18446744073709551616 + O + 0) % 18446744073709551616 + 0) / 18446744073709551616) ∧
    (0 ≤ (P + (X % 18446744073709551616 + O + 0) % 18446744073709551616 + 0) % 18446744073709551616 ∧ (P + (X % 18446744073709551616 + O + 0) % 18446744073709551616 + 0) % 18446744073709551616 < 18446744073709551616) ∧
    (0 ≤ IntKind.u64.wrap (IntKind.u64.wrap (X / 18446744073709551616 + (X % 18446744073709551616 + O + 0) / 18446744073709551616) + (P + (X % 18446744073709551616 + O + 0) % 18446744073709551616 + 0) / 18446744073709551616) ∧
     IntKind.u64.wrap (IntKind.u64.wrap (X / 18446744073709551616 + (X % 18446744073709551616 + O + 0) / 18446744073709551616) + (P + (X % 18446744073709551616 + O + 0) % 18446744073709551616 + 0) / 18446744073709551616) < 18446744073709551616) := by
  have h1 : IntKind.u64.wrap (X / 18446744073709551616 + (X % 18446744073709551616 + O + 0) / 18446744073709551616) = X / 18446744073709551616 + (X % 18446744073709551616 + O + 0) / 18446744073709551616 := wrap_id (by omega)
  rw [h1, wrap_id (by omega)]
  omega
theorem limb_mul (a b : Nat) (i j : Nat) : 0 ≤ limb a i * limb b j ∧ limb a i * limb b j ≤ 340282366920938463426481119284349108225 := by
  have h1 := limb_nonneg a i
  have h2 := limb_nonneg b j
  have h3 := limb_lt a i
  have h4 := limb_lt b j
  refine ⟨Int.mul_nonneg h1 h2, ?_⟩
  have : limb a i * limb b j ≤ 18446744073709551615 * 18446744073709551615 := Int.mul_le_mul (by omega) (by omega) h2 (by decide)
  omega

/-- What the sixteen products come to, weighed. -/
theorem mul_weigh (a b c0 c1 c2 c3 c4 c5 c6 c7 : Int) (a0 a1 a2 a3 b0 b1 b2 b3 : Int) (ha : a = a0 + 18446744073709551616 * a1 + 340282366920938463463374607431768211456 * a2 + 6277101735386680763835789423207666416102355444464034512896 * a3)
    (hb : b = b0 + 18446744073709551616 * b1 + 340282366920938463463374607431768211456 * b2 + 6277101735386680763835789423207666416102355444464034512896 * b3)
    (h : a0 * b0 + 18446744073709551616 * (a0 * b1 + a1 * b0) + 340282366920938463463374607431768211456 * (a0 * b2 + a1 * b1 + a2 * b0) + 6277101735386680763835789423207666416102355444464034512896 * (a0 * b3 + a1 * b2 + a2 * b1 + a3 * b0) +
      115792089237316195423570985008687907853269984665640564039457584007913129639936 * (a1 * b3 + a2 * b2 + a3 * b1) + 2135987035920910082395021706169552114602704522356652769947041607822219725780640550022962086936576 * (a2 * b3 + a3 * b2) + 39402006196394479212279040100143613805079739270465446667948293404245721771497210611414266254884915640806627990306816 * (a3 * b3) =
      c0 + 18446744073709551616 * c1 + 340282366920938463463374607431768211456 * c2 + 6277101735386680763835789423207666416102355444464034512896 * c3 + 115792089237316195423570985008687907853269984665640564039457584007913129639936 * c4 + 2135987035920910082395021706169552114602704522356652769947041607822219725780640550022962086936576 * c5 + 39402006196394479212279040100143613805079739270465446667948293404245721771497210611414266254884915640806627990306816 * c6 + 726838724295606890549323807888004534353641360687318060281490199180639288113397923326191050713763565560762521606266177933534601628614656 * c7) :
    a * b = c0 + 18446744073709551616 * c1 + 340282366920938463463374607431768211456 * c2 + 6277101735386680763835789423207666416102355444464034512896 * c3 + 115792089237316195423570985008687907853269984665640564039457584007913129639936 * (c4 + 18446744073709551616 * c5 + 340282366920938463463374607431768211456 * c6 + 6277101735386680763835789423207666416102355444464034512896 * c7) := by
  subst ha hb
  simp only [Int.add_mul, Int.mul_add, Int.mul_assoc] at h ⊢
  have e : ∀ (x y : Int) (k : Int), x * (k * y) = k * (x * y) := fun x y k => Int.mul_left_comm x k y
  simp only [e a0, e a1, e a2, e a3] at h ⊢
  omega

set_option maxRecDepth 100000 in
theorem ok_Mul : ∀ a b, Owes Tryz.prog cxMul2 [] 100 Tryz.f100 [sU a, sU b] (mulG a b) := by
  intro a b
  rw [vc_Mul]
  have hm := limb_mul a b
  have h01 : (0 : Int) ≤ 1 := by decide
  have hz : (0 : Int) ≤ 0 ∧ (0 : Int) < 18446744073709551616 := by decide
  have hl : ∀ n i, (0 : Int) ≤ limb n i ∧ limb n i < 18446744073709551616 := fun n i => ⟨limb_nonneg n i, limb_lt n i⟩
  intro x1 x2 x3 x4 x5 x6 x7 x8 x9 x10 x11 x12 x13 x14 x15 x16 x17 x18 x19 x20 x21 x22 x23 x24 x25 x26 x27 x28 x29 x30 x31 x32 x33 x34 x35 x36 x37 x38 x39 x40 x41 x42 x43 x44 x45 x46 x47 x48 x49 x50 x51 x52 x53 x54 x55 x56 x57 x58 x59 x60 x61 x62 x63 x64 x65 x66 x67 x68 x69 x70 x71 x72 x73 x74 x75 x76 x77 x78 x79 x80 x81 x82 x83 x84 x85 x86 x87 x88 x89 x90 x91 x92 x93 x94 x95 x96 x97 x98 x99 x100 x101 x102 x103 x104 x105 x106 x107 x108 x109 x110 x111 x112
  obtain ⟨f0_0, p0_0, r0_0⟩ : x1 + 0 + 0 = x104 + 18446744073709551616 * x8 ∧ (0 ≤ x104 ∧ x104 < 18446744073709551616) ∧ (0 ≤ x8 ∧ x8 < 18446744073709551616) := mac x1 0 0 (hm 0 0) hz hz
  obtain ⟨f0_1, p0_1, r0_1⟩ : x5 + x8 + 0 = x25 + 18446744073709551616 * x14 ∧ (0 ≤ x25 ∧ x25 < 18446744073709551616) ∧ (0 ≤ x14 ∧ x14 < 18446744073709551616) := mac x5 x8 0 (hm 0 1) r0_0 hz
  obtain ⟨f0_2, p0_2, r0_2⟩ : x11 + x14 + 0 = x32 + 18446744073709551616 * x20 ∧ (0 ≤ x32 ∧ x32 < 18446744073709551616) ∧ (0 ≤ x20 ∧ x20 < 18446744073709551616) := mac x11 x14 0 (hm 0 2) r0_1 hz
  obtain ⟨f0_3, p0_3, r0_3⟩ : x17 + x20 + 0 = x40 + 18446744073709551616 * x47 ∧ (0 ≤ x40 ∧ x40 < 18446744073709551616) ∧ (0 ≤ x47 ∧ x47 < 18446744073709551616) := mac x17 x20 0 (hm 0 3) r0_2 hz
  obtain ⟨f1_0, p1_0, r1_0⟩ : x23 + 0 + x25 = x105 + 18446744073709551616 * x31 ∧ (0 ≤ x105 ∧ x105 < 18446744073709551616) ∧ (0 ≤ x31 ∧ x31 < 18446744073709551616) := mac x23 0 x25 (hm 1 0) hz p0_1
  obtain ⟨f1_1, p1_1, r1_1⟩ : x28 + x31 + x32 = x52 + 18446744073709551616 * x38 ∧ (0 ≤ x52 ∧ x52 < 18446744073709551616) ∧ (0 ≤ x38 ∧ x38 < 18446744073709551616) := mac x28 x31 x32 (hm 1 1) r1_0 p0_2
  obtain ⟨f1_2, p1_2, r1_2⟩ : x35 + x38 + x40 = x59 + 18446744073709551616 * x46 ∧ (0 ≤ x59 ∧ x59 < 18446744073709551616) ∧ (0 ≤ x46 ∧ x46 < 18446744073709551616) := mac x35 x38 x40 (hm 1 2) r1_1 p0_3
  obtain ⟨f1_3, p1_3, r1_3⟩ : x43 + x46 + x47 = x67 + 18446744073709551616 * x74 ∧ (0 ≤ x67 ∧ x67 < 18446744073709551616) ∧ (0 ≤ x74 ∧ x74 < 18446744073709551616) := mac x43 x46 x47 (hm 1 3) r1_2 r0_3
  obtain ⟨f2_0, p2_0, r2_0⟩ : x50 + 0 + x52 = x106 + 18446744073709551616 * x58 ∧ (0 ≤ x106 ∧ x106 < 18446744073709551616) ∧ (0 ≤ x58 ∧ x58 < 18446744073709551616) := mac x50 0 x52 (hm 2 0) hz p1_1
  obtain ⟨f2_1, p2_1, r2_1⟩ : x55 + x58 + x59 = x79 + 18446744073709551616 * x65 ∧ (0 ≤ x79 ∧ x79 < 18446744073709551616) ∧ (0 ≤ x65 ∧ x65 < 18446744073709551616) := mac x55 x58 x59 (hm 2 1) r2_0 p1_2
  obtain ⟨f2_2, p2_2, r2_2⟩ : x62 + x65 + x67 = x86 + 18446744073709551616 * x73 ∧ (0 ≤ x86 ∧ x86 < 18446744073709551616) ∧ (0 ≤ x73 ∧ x73 < 18446744073709551616) := mac x62 x65 x67 (hm 2 2) r2_1 p1_3
  obtain ⟨f2_3, p2_3, r2_3⟩ : x70 + x73 + x74 = x94 + 18446744073709551616 * x101 ∧ (0 ≤ x94 ∧ x94 < 18446744073709551616) ∧ (0 ≤ x101 ∧ x101 < 18446744073709551616) := mac x70 x73 x74 (hm 2 3) r2_2 r1_3
  obtain ⟨f3_0, p3_0, r3_0⟩ : x77 + 0 + x79 = x107 + 18446744073709551616 * x85 ∧ (0 ≤ x107 ∧ x107 < 18446744073709551616) ∧ (0 ≤ x85 ∧ x85 < 18446744073709551616) := mac x77 0 x79 (hm 3 0) hz p2_1
  obtain ⟨f3_1, p3_1, r3_1⟩ : x82 + x85 + x86 = x108 + 18446744073709551616 * x92 ∧ (0 ≤ x108 ∧ x108 < 18446744073709551616) ∧ (0 ≤ x92 ∧ x92 < 18446744073709551616) := mac x82 x85 x86 (hm 3 1) r3_0 p2_2
  obtain ⟨f3_2, p3_2, r3_2⟩ : x89 + x92 + x94 = x109 + 18446744073709551616 * x100 ∧ (0 ≤ x109 ∧ x109 < 18446744073709551616) ∧ (0 ≤ x100 ∧ x100 < 18446744073709551616) := mac x89 x92 x94 (hm 3 2) r3_1 p2_3
  obtain ⟨f3_3, p3_3, r3_3⟩ : x97 + x100 + x101 = x111 + 18446744073709551616 * x112 ∧ (0 ≤ x111 ∧ x111 < 18446744073709551616) ∧ (0 ≤ x112 ∧ x112 < 18446744073709551616) := mac x97 x100 x101 (hm 3 3) r3_2 r2_3
  have n_x2 : 0 ≤ x2 := Int.emod_nonneg _ (by decide)
  have n_x4 : 0 ≤ x4 := Int.emod_nonneg _ (by decide)
  have n_x6 : 0 ≤ x6 := Int.emod_nonneg _ (by decide)
  have n_x10 : 0 ≤ x10 := Int.emod_nonneg _ (by decide)
  have n_x12 : 0 ≤ x12 := Int.emod_nonneg _ (by decide)
  have n_x16 : 0 ≤ x16 := Int.emod_nonneg _ (by decide)
  have n_x18 : 0 ≤ x18 := Int.emod_nonneg _ (by decide)
  have n_x22 : 0 ≤ x22 := Int.emod_nonneg _ (by decide)
  have n_x24 : 0 ≤ x24 := Int.emod_nonneg _ (by decide)
  have n_x25 : 0 ≤ x25 := Int.emod_nonneg _ (by decide)
  have n_x27 : 0 ≤ x27 := Int.emod_nonneg _ (by decide)
  have n_x29 : 0 ≤ x29 := Int.emod_nonneg _ (by decide)
  have n_x32 : 0 ≤ x32 := Int.emod_nonneg _ (by decide)
  have n_x34 : 0 ≤ x34 := Int.emod_nonneg _ (by decide)
  have n_x36 : 0 ≤ x36 := Int.emod_nonneg _ (by decide)
  have n_x40 : 0 ≤ x40 := Int.emod_nonneg _ (by decide)
  have n_x42 : 0 ≤ x42 := Int.emod_nonneg _ (by decide)
  have n_x44 : 0 ≤ x44 := Int.emod_nonneg _ (by decide)
  have n_x49 : 0 ≤ x49 := Int.emod_nonneg _ (by decide)
  have n_x51 : 0 ≤ x51 := Int.emod_nonneg _ (by decide)
  have n_x52 : 0 ≤ x52 := Int.emod_nonneg _ (by decide)
  have n_x54 : 0 ≤ x54 := Int.emod_nonneg _ (by decide)
  have n_x56 : 0 ≤ x56 := Int.emod_nonneg _ (by decide)
  have n_x59 : 0 ≤ x59 := Int.emod_nonneg _ (by decide)
  have n_x61 : 0 ≤ x61 := Int.emod_nonneg _ (by decide)
  have n_x63 : 0 ≤ x63 := Int.emod_nonneg _ (by decide)
  have n_x67 : 0 ≤ x67 := Int.emod_nonneg _ (by decide)
  have n_x69 : 0 ≤ x69 := Int.emod_nonneg _ (by decide)
  have n_x71 : 0 ≤ x71 := Int.emod_nonneg _ (by decide)
  have n_x76 : 0 ≤ x76 := Int.emod_nonneg _ (by decide)
  have n_x78 : 0 ≤ x78 := Int.emod_nonneg _ (by decide)
  have n_x79 : 0 ≤ x79 := Int.emod_nonneg _ (by decide)
  have n_x81 : 0 ≤ x81 := Int.emod_nonneg _ (by decide)
  have n_x83 : 0 ≤ x83 := Int.emod_nonneg _ (by decide)
  have n_x86 : 0 ≤ x86 := Int.emod_nonneg _ (by decide)
  have n_x88 : 0 ≤ x88 := Int.emod_nonneg _ (by decide)
  have n_x90 : 0 ≤ x90 := Int.emod_nonneg _ (by decide)
  have n_x94 : 0 ≤ x94 := Int.emod_nonneg _ (by decide)
  have n_x96 : 0 ≤ x96 := Int.emod_nonneg _ (by decide)
  have n_x98 : 0 ≤ x98 := Int.emod_nonneg _ (by decide)
  have n_x103 : 0 ≤ x103 := Int.emod_nonneg _ (by decide)
  have n_x104 : 0 ≤ x104 := Int.emod_nonneg _ (by decide)
  have n_x105 : 0 ≤ x105 := Int.emod_nonneg _ (by decide)
  have n_x106 : 0 ≤ x106 := Int.emod_nonneg _ (by decide)
  have n_x107 : 0 ≤ x107 := Int.emod_nonneg _ (by decide)
  have n_x108 : 0 ≤ x108 := Int.emod_nonneg _ (by decide)
  have n_x109 : 0 ≤ x109 := Int.emod_nonneg _ (by decide)
  have n_x111 : 0 ≤ x111 := Int.emod_nonneg _ (by decide)
  have g0_0 : limb a 0 * limb b 0 = x1 := rfl
  have g0_1 : limb a 0 * limb b 1 = x5 := rfl
  have g0_2 : limb a 0 * limb b 2 = x11 := rfl
  have g0_3 : limb a 0 * limb b 3 = x17 := rfl
  have g1_0 : limb a 1 * limb b 0 = x23 := rfl
  have g1_1 : limb a 1 * limb b 1 = x28 := rfl
  have g1_2 : limb a 1 * limb b 2 = x35 := rfl
  have g1_3 : limb a 1 * limb b 3 = x43 := rfl
  have g2_0 : limb a 2 * limb b 0 = x50 := rfl
  have g2_1 : limb a 2 * limb b 1 = x55 := rfl
  have g2_2 : limb a 2 * limb b 2 = x62 := rfl
  have g2_3 : limb a 2 * limb b 3 = x70 := rfl
  have g3_0 : limb a 3 * limb b 0 = x77 := rfl
  have g3_1 : limb a 3 * limb b 1 = x82 := rfl
  have g3_2 : limb a 3 * limb b 2 = x89 := rfl
  have g3_3 : limb a 3 * limb b 3 = x97 := rfl
  clear_value x112 x111 x110 x109 x108 x107 x106 x105 x104 x103 x102 x101 x100 x99 x98 x97 x96 x95 x94 x93 x92 x91 x90 x89 x88 x87 x86 x85 x84 x83 x82 x81 x80 x79 x78 x77 x76 x75 x74 x73 x72 x71 x70 x69 x68 x67 x66 x65 x64 x63 x62 x61 x60 x59 x58 x57 x56 x55 x54 x53 x52 x51 x50 x49 x48 x47 x46 x45 x44 x43 x42 x41 x40 x39 x38 x37 x36 x35 x34 x33 x32 x31 x30 x29 x28 x27 x26 x25 x24 x23 x22 x21 x20 x19 x18 x17 x16 x15 x14 x13 x12 x11 x10 x9 x8 x7 x6 x5 x4 x3 x2 x1
  have hw := mul_weigh ((a % M256 : Nat) : Int) ((b % M256 : Nat) : Int) x104 x105 x106 x107 x108 x109 x111 x112 (limb a 0) (limb a 1) (limb a 2) (limb a 3) (limb b 0) (limb b 1) (limb b 2) (limb b 3) (limbs_int a) (limbs_int b)
    (by rw [g0_0, g0_1, g0_2, g0_3, g1_0, g1_1, g1_2, g1_3, g2_0, g2_1, g2_2, g2_3, g3_0, g3_1, g3_2, g3_3]; clear hm hl n_x2 n_x4 n_x6 n_x10 n_x12 n_x16 n_x18 n_x22 n_x24 n_x25 n_x27 n_x29 n_x32 n_x34 n_x36 n_x40 n_x42 n_x44 n_x49 n_x51 n_x52 n_x54 n_x56 n_x59 n_x61 n_x63 n_x67 n_x69 n_x71 n_x76 n_x78 n_x79 n_x81 n_x83 n_x86 n_x88 n_x90 n_x94 n_x96 n_x98 n_x103 n_x104 n_x105 n_x106 n_x107 n_x108 n_x109 n_x111; omega)
  obtain ⟨q1, q2⟩ := mul_fin a b x104 x105 x106 x107 x108 x109 x111 x112 p0_0 p1_0 p2_0 p3_0 p3_1 p3_2 p3_3 r3_3 hw
  have o_x8 := r0_0.1
  have o_x14 := r0_1.1
  have o_x20 := r0_2.1
  have o_x47 := r0_3.1
  have o_x31 := r1_0.1
  have o_x38 := r1_1.1
  have o_x46 := r1_2.1
  have o_x74 := r1_3.1
  have o_x58 := r2_0.1
  have o_x65 := r2_1.1
  have o_x73 := r2_2.1
  have o_x101 := r2_3.1
  have o_x85 := r3_0.1
  have o_x92 := r3_1.1
  have o_x100 := r3_2.1
  have o_x112 := r3_3.1
  exact ⟨⟨(limb_nonneg _ _), (limb_lt _ _)⟩, ⟨(limb_nonneg _ _), (limb_lt _ _)⟩, n_x2, hz.1, ⟨hz.1, h01⟩, hz.1, n_x4, ⟨hz.1, h01⟩, ⟨(limb_nonneg _ _), (limb_lt _ _)⟩, ⟨(limb_nonneg _ _), (limb_lt _ _)⟩, n_x6, r0_0.1, ⟨hz.1, h01⟩, hz.1, n_x10, ⟨hz.1, h01⟩, ⟨(limb_nonneg _ _), (limb_lt _ _)⟩, ⟨(limb_nonneg _ _), (limb_lt _ _)⟩, n_x12, r0_1.1, ⟨hz.1, h01⟩, hz.1, n_x16, ⟨hz.1, h01⟩, ⟨(limb_nonneg _ _), (limb_lt _ _)⟩, ⟨(limb_nonneg _ _), (limb_lt _ _)⟩, n_x18, r0_2.1, ⟨hz.1, h01⟩, hz.1, n_x22, ⟨hz.1, h01⟩, ⟨(limb_nonneg _ _), (limb_lt _ _)⟩, ⟨(limb_nonneg _ _), (limb_lt _ _)⟩, n_x24, hz.1, ⟨hz.1, h01⟩, p0_1.1, n_x27, ⟨hz.1, h01⟩, ⟨(limb_nonneg _ _), (limb_lt _ _)⟩, ⟨(limb_nonneg _ _), (limb_lt _ _)⟩, n_x29, r1_0.1, ⟨hz.1, h01⟩, p0_2.1, n_x34, ⟨hz.1, h01⟩, ⟨(limb_nonneg _ _), (limb_lt _ _)⟩, ⟨(limb_nonneg _ _), (limb_lt _ _)⟩, n_x36, r1_1.1, ⟨hz.1, h01⟩, p0_3.1, n_x42, ⟨hz.1, h01⟩, ⟨(limb_nonneg _ _), (limb_lt _ _)⟩, ⟨(limb_nonneg _ _), (limb_lt _ _)⟩, n_x44, r1_2.1, ⟨hz.1, h01⟩, r0_3.1, n_x49, ⟨hz.1, h01⟩, ⟨(limb_nonneg _ _), (limb_lt _ _)⟩, ⟨(limb_nonneg _ _), (limb_lt _ _)⟩, n_x51, hz.1, ⟨hz.1, h01⟩, p1_1.1, n_x54, ⟨hz.1, h01⟩, ⟨(limb_nonneg _ _), (limb_lt _ _)⟩, ⟨(limb_nonneg _ _), (limb_lt _ _)⟩, n_x56, r2_0.1, ⟨hz.1, h01⟩, p1_2.1, n_x61, ⟨hz.1, h01⟩, ⟨(limb_nonneg _ _), (limb_lt _ _)⟩, ⟨(limb_nonneg _ _), (limb_lt _ _)⟩, n_x63, r2_1.1, ⟨hz.1, h01⟩, p1_3.1, n_x69, ⟨hz.1, h01⟩, ⟨(limb_nonneg _ _), (limb_lt _ _)⟩, ⟨(limb_nonneg _ _), (limb_lt _ _)⟩, n_x71, r2_2.1, ⟨hz.1, h01⟩, r1_3.1, n_x76, ⟨hz.1, h01⟩, ⟨(limb_nonneg _ _), (limb_lt _ _)⟩, ⟨(limb_nonneg _ _), (limb_lt _ _)⟩, n_x78, hz.1, ⟨hz.1, h01⟩, p2_1.1, n_x81, ⟨hz.1, h01⟩, ⟨(limb_nonneg _ _), (limb_lt _ _)⟩, ⟨(limb_nonneg _ _), (limb_lt _ _)⟩, n_x83, r3_0.1, ⟨hz.1, h01⟩, p2_2.1, n_x88, ⟨hz.1, h01⟩, ⟨(limb_nonneg _ _), (limb_lt _ _)⟩, ⟨(limb_nonneg _ _), (limb_lt _ _)⟩, n_x90, r3_1.1, ⟨hz.1, h01⟩, p2_3.1, n_x96, ⟨hz.1, h01⟩, ⟨(limb_nonneg _ _), (limb_lt _ _)⟩, ⟨(limb_nonneg _ _), (limb_lt _ _)⟩, n_x98, r3_2.1, ⟨hz.1, h01⟩, r2_3.1, n_x103, ⟨hz.1, h01⟩, ⟨⟨p0_0.1, p0_0.2⟩, ⟨p1_0.1, p1_0.2⟩, ⟨p2_0.1, p2_0.2⟩, ⟨p3_0.1, p3_0.2⟩, q1, trivial⟩, ⟨p3_1.1, p3_1.2⟩, ⟨p3_2.1, p3_2.2⟩, ⟨p3_3.1, p3_3.2⟩, ⟨r3_3.1, r3_3.2⟩, q2, trivial⟩
end Go.Proofs.YtbfcccoeekonlaaGreatDoor
end

section
/-
  A number taken so often as a word says, and the product of two words: the numbers' side.
-/
namespace Go.Proofs.YtbfcccoeekonlaaGreatDoor
open Go.Sx

theorem times_step (l n c : Nat) (hl : l < 18446744073709551616) (hn : n < 18446744073709551616) (hc : c < 18446744073709551616) :
    ∃ s d : Nat, ((l : Int) * n % 18446744073709551616 + c + 0) % 18446744073709551616 = s ∧ IntKind.u64.wrap ((l : Int) * n / 18446744073709551616 + ((l : Int) * n % 18446744073709551616 + c + 0) / 18446744073709551616) = d ∧
      s < 18446744073709551616 ∧ d < 18446744073709551616 ∧ l * n + c = s + 18446744073709551616 * d := by
  have hm : l * n ≤ 18446744073709551615 * 18446744073709551615 := Nat.mul_le_mul (by omega) (by omega)
  have e : (l : Int) * n = ((l * n : Nat) : Int) := (Int.natCast_mul l n).symm
  rw [e]
  generalize l * n = g at *
  refine ⟨(g + c) % 18446744073709551616, (g + c) / 18446744073709551616, by omega, ?_, by omega, by omega, by omega⟩
  rw [wrap_id (by omega)]
  omega

theorem ok_times : ∀ a n, 0 ≤ n ∧ n < 18446744073709551616 → Owes Tryz.prog cxTimes2 [] 100 Tryz.f83 [sU a, sI .u64 n] (timesG a n) := by
  intro a n hn
  rw [vc_times]
  obtain ⟨q, rfl⟩ := Int.eq_ofNat_of_zero_le hn.1
  have hq : q < 18446744073709551616 := by omega
  intro x1 x2 x3 x4 x5 x6 x7 x8 x9 x10 x11 x12 x13 x14 x15 x16 x17 x18 x19
  obtain ⟨a0, a1, a2, a3, e0, e1, e2, e3, h0, h1, h2, h3, ha⟩ := split4 a
  obtain ⟨s0, d0, p0, q0, r0, t0, w0⟩ := times_step a0 q 0 h0 hq (by omega)
  obtain ⟨s1, d1, p1, q1, r1, t1, w1⟩ := times_step a1 q d0 h1 hq t0
  obtain ⟨s2, d2, p2, q2, r2, t2, w2⟩ := times_step a2 q d1 h2 hq t1
  obtain ⟨s3, d3, p3, q3, r3, t3, w3⟩ := times_step a3 q d2 h3 hq t2
  have m15 : x15 = s0 := by simp only [x15, x5, x2, x1, e0]; exact p0
  have m6 : x6 = d0 := by simp only [x6, x5, x2, x1, e0]; exact q0
  have m17 : x16 = s1 := by simp only [x16, x9, x4, x3, m6, e1]; exact p1
  have m10 : x10 = d1 := by simp only [x10, x9, x4, x3, m6, e1]; exact q1
  have m18 : x17 = s2 := by simp only [x17, x13, x8, x7, m10, e2]; exact p2
  have m14 : x14 = d2 := by simp only [x14, x13, x8, x7, m10, e2]; exact q2
  have m20 : x19 = s3 := by simp only [x19, x18, x12, x11, m14, e3]; exact p3
  have m21 : IntKind.u64.wrap (x11 / 18446744073709551616 + x18 / 18446744073709551616) = d3 := by simp only [x18, x12, x11, m14, e3]; exact q3
  have n2 : 0 ≤ x2 := Int.emod_nonneg _ (by decide)
  have n4 : 0 ≤ x4 := Int.emod_nonneg _ (by decide)
  have n8 : 0 ≤ x8 := Int.emod_nonneg _ (by decide)
  have n12 : 0 ≤ x12 := Int.emod_nonneg _ (by decide)
  clear_value x19 x18 x17 x16 x15 x14 x13 x12 x11 x10 x9 x8 x7 x6 x5 x4 x3 x2 x1
  have key : a % M256 * q = s0 + 18446744073709551616 * s1 + 340282366920938463463374607431768211456 * s2 + 6277101735386680763835789423207666416102355444464034512896 * s3 + M256 * d3 := by
    have e : a % M256 * q = a0 * q + 18446744073709551616 * (a1 * q) + 340282366920938463463374607431768211456 * (a2 * q) + 6277101735386680763835789423207666416102355444464034512896 * (a3 * q) := by
      rw [ha, Nat.add_mul, Nat.add_mul, Nat.add_mul, Nat.mul_assoc, Nat.mul_assoc, Nat.mul_assoc]
    rw [e, M256_eq]
    generalize a0 * q = g0 at *
    generalize a1 * q = g1 at *
    generalize a2 * q = g2 at *
    generalize a3 * q = g3 at *
    omega
  have hlt : s0 + 18446744073709551616 * s1 + 340282366920938463463374607431768211456 * s2 + 6277101735386680763835789423207666416102355444464034512896 * s3 < M256 := by
    rw [M256_eq]; omega
  have hmod : a * q % M256 = (a % M256 * q) % M256 := by rw [Nat.mod_mul_mod]
  rw [m21, m15, m17, m18, m20, m6, m10, m14, e0, e1, e2, e3]
  simp only [Int.toNat_natCast]
  refine ⟨by omega, by omega, n2, by omega, by omega, by omega, by omega, n4, by omega, by omega, by omega, by omega, n8, by omega, by omega, by omega, by omega, n12, by omega, by omega, ⟨by omega, by omega, by omega, by omega, ?_, trivial⟩, ?_⟩
  · rw [hmod, key, Nat.add_mul_mod_self_left]
    rfl
  · rw [key, Nat.add_mul_div_left _ _ (by rw [M256_eq]; decide), Nat.div_eq_of_lt hlt, Nat.zero_add]
end Go.Proofs.YtbfcccoeekonlaaGreatDoor
end

section
/-
  The product of two words, in full.
-/
namespace Go.Proofs.YtbfcccoeekonlaaGreatDoor
open Go.Sx

theorem and_low (p : Nat) (hp : p < 18446744073709551616) : (BitVec.ofInt 64 (p : Int) &&& BitVec.ofInt 64 (4294967295 : Int)).toNat = p % 4294967296 := by
  have h1 : (BitVec.ofInt 64 (p : Int)).toNat = p := by
    rw [BitVec.toNat_ofInt]
    omega
  have h2 : (BitVec.ofInt 64 (4294967295 : Int)).toNat = 2 ^ 32 - 1 := by decide
  rw [BitVec.toNat_and, h1, h2, Nat.and_two_pow_sub_one_eq_mod]

theorem fdiv_low (p : Nat) : (p : Int).fdiv 4294967296 = ((p / 4294967296 : Nat) : Int) := by
  rw [Int.fdiv_eq_ediv_of_nonneg _ (show (0 : Int) ≤ 4294967296 by decide)]; rfl
theorem wrap_natP {n : Nat} (h : n < 18446744073709551616) : IntKind.u64.wrap (n : Int) = n := wrap_id ⟨Int.natCast_nonneg _, Int.ofNat_lt.2 h⟩

theorem ok_Mul64 : ∀ a b, w64ok a → w64ok b → Owes Tryz.prog Cx.none [] 100 Tryz.f104 [sI .u64 a, sI .u64 b] (mul64G a b) := by
  intro a b ha hb
  rw [vc_Mul64]
  obtain ⟨p, rfl⟩ := Int.eq_ofNat_of_zero_le ha.1
  obtain ⟨q, rfl⟩ := Int.eq_ofNat_of_zero_le hb.1
  have hp : p < 18446744073709551616 := Int.ofNat_lt.1 ha.2
  have hq : q < 18446744073709551616 := Int.ofNat_lt.1 hb.2
  intro x1 x2 x3
  have e1 : x1 = ((q % 4294967296 : Nat) : Int) := by simp only [x1]; rw [and_low q hq]; exact wrap_natP (by omega)
  obtain ⟨m1, m2, m3, m4⟩ := Lib.mul64_hi p q hp hq
  have e2 : x2 = (((p / 4294967296) * (q % 4294967296) + (p % 4294967296) * (q % 4294967296) / 4294967296 : Nat) : Int) := by
    simp only [x2, e1]
    rw [fdiv_low, and_low p hp, wrap_natP (show p % 4294967296 < 18446744073709551616 by omega), ← Int.natCast_mul, ← Int.natCast_mul, wrap_natP m1, fdiv_low]
    have : (p / 4294967296) * (q % 4294967296) < 18446744073709551616 := Nat.lt_of_le_of_lt (Nat.le_add_right _ _) m2
    rw [wrap_natP this, ← Int.natCast_add, wrap_natP m2]
  have e3 : x3 = ((p * q : Nat) : Int) := (Int.natCast_mul p q).symm
  have hpq : p * q / 18446744073709551616 < 18446744073709551616 := by
    have : p * q ≤ 18446744073709551615 * 18446744073709551615 := Nat.mul_le_mul (by omega) (by omega)
    omega
  clear_value x3 x2 x1
  subst e1 e2 e3
  constructor
  · rw [fdiv_low, fdiv_low, fdiv_low, and_low p hp, and_low _ m2, wrap_natP (show p % 4294967296 < 18446744073709551616 by omega), ← Int.natCast_mul, ← Int.natCast_mul]
    have k1 : (p / 4294967296) * (q / 4294967296) < 18446744073709551616 := by rw [← m4] at hpq; omega
    have k2 : (p % 4294967296) * (q / 4294967296) < 18446744073709551616 := Nat.lt_of_le_of_lt (Nat.le_add_left _ _) m3
    rw [wrap_natP k1, wrap_natP k2, wrap_natP (show _ % 4294967296 < 18446744073709551616 by omega), ← Int.natCast_add, ← Int.natCast_add, wrap_natP m3, fdiv_low]
    have k3 : (p / 4294967296) * (q / 4294967296) + ((p / 4294967296) * (q % 4294967296) + (p % 4294967296) * (q % 4294967296) / 4294967296) / 4294967296 < 18446744073709551616 := by rw [← m4] at hpq; exact Nat.lt_of_le_of_lt (Nat.le_add_right _ _) hpq
    rw [wrap_natP k3, ← Int.natCast_add, m4, wrap_natP hpq]
    rfl
  · unfold IntKind.wrap
    simp [IntKind.signed, IntKind.bits]
end Go.Proofs.YtbfcccoeekonlaaGreatDoor
end

section
/-
  The laws of products: the numbers' side.
-/
namespace Go.Proofs.YtbfcccoeekonlaaGreatDoor
open Go.Sx

end Go.Proofs.YtbfcccoeekonlaaGreatDoor
end

section
/-
  A sum is taken so often as its parts are: the numbers' side.
-/
namespace Go.Proofs.YtbfcccoeekonlaaGreatDoor
open Go.Sx

theorem halves (x y z : Nat) : x * z % M256 + y * z % M256 = (x % M256 * (z % M256)) % M256 + (y % M256 * (z % M256)) % M256 := by
  rw [Nat.mul_mod x, Nat.mul_mod y]

end Go.Proofs.YtbfcccoeekonlaaGreatDoor
end

section
/-
  What a law asks, brought to what its run comes to: arguments opened to their cells, and what is left of them behind the run.
-/
namespace Go.Sx
open Go.RowKit Go.ChangeShapes Go.WideShapes

/-! ## Flat things: their cells, one behind another -/
inductive LK where
  | bool
  | int (k : IntKind)
  | text

def LK.fits : LK → Value → Prop
  | .bool, .bool _ => True
  | .int k, .int k' n => k' = k ∧ (Lit.int k n).wf = true
  | .text, .string s => s.size ≤ maxLen
  | _, _ => False

def fitsL : List LK → List Value → Prop
  | [], [] => True
  | l :: ls, v :: vs => l.fits v ∧ fitsL ls vs
  | _, _ => False

theorem fitsL_append : ∀ {a b : List LK} {u v : List Value}, fitsL a u → fitsL b v → fitsL (a ++ b) (u ++ v)
  | [], _, [], _, _, h => h
  | _ :: _, _, _ :: _, _, h, k => ⟨h.1, fitsL_append h.2 k⟩
  | [], _, _ :: _, _, h, _ => h.elim
  | _ :: _, _, [], _, h, _ => h.elim

/-- The cells of a struct's fields, where they lie one behind another. -/
def lksF (P : Program) (g : TypeId → Option (List LK)) : List Field → Nat → Option (List LK)
  | [], _ => some []
  | f :: fs, n =>
    match g f.type with
    | none => none
    | some a => if Nat.beq f.offset n && Nat.beq (P.cellsOf f.type) a.length then (lksF P g fs (n + a.length)).map (a ++ ·) else none

def lks (P : Program) : Nat → TypeId → Option (List LK)
  | 0, _ => none
  | d + 1, t =>
    match P.underlying t with
    | some .bool => some [.bool]
    | some (.int k) => some [.int k]
    | some .string => some [.text]
    | some (.struct fs) => match lksF P (lks P d) fs.toList 0 with
      | some a => if Nat.beq (P.cellsOf t) a.length then some a else none
      | none => none
    | some (.array n e) => match lks P d e with
      | some a => if Nat.beq (P.cellsOf e) a.length && Nat.beq (P.cellsOf t) (n * a.length) then some (List.replicate n a).flatten else none
      | none => none
    | _ => none

section
variable {H : Type} {enc : TypeId × Value → H} {P : Program} {w : World} {base : Nat} {sp : Nat → Bool} {held : Bool}

theorem fits_fields {fuel : Nat} {g : TypeId → Option (List LK)} {cs : List Value}
    (hg : ∀ {t a cs' x}, g t = some a → DataW.trod enc P w base sp held fuel t cs' = some x → fitsL a cs') :
    ∀ {fs : List Field} {n : Nat} {a : List LK}, lksF P g fs n = some a →
      (∀ f ∈ fs, ∃ x, DataW.trod enc P w base sp held fuel f.type ((cs.drop f.offset).take (P.cellsOf f.type)) = some x) → fitsL a ((cs.drop n).take a.length)
  | [], n, a, h, _ => by
    simp only [lksF, Option.some.injEq] at h
    subst h
    simp [fitsL]
  | f :: fs, n, a, h, hx => by
    simp only [lksF] at h
    split at h
    · cases h
    · rename_i a0 ha
      split at h
      · rename_i hc
        simp only [Bool.and_eq_true] at hc
        have h1 := Nat.eq_of_beq_eq_true hc.1
        have h2 := Nat.eq_of_beq_eq_true hc.2
        cases hr : lksF P g fs (n + a0.length) with
        | none => rw [hr] at h; simp at h
        | some a1 =>
          rw [hr] at h
          simp only [Option.map_some, Option.some.injEq] at h
          subst h
          obtain ⟨x, hx0⟩ := hx f (by simp)
          have f0 := hg ha hx0
          have f1 := fits_fields hg hr (fun f' hf' => hx f' (by simp [hf']))
          rw [h1, h2] at f0
          have := fitsL_append f0 f1
          rwa [List.length_append, List.take_add, List.drop_drop]
      · cases h

theorem fits_rows {a : List LK} : ∀ {n : Nat} {cs : List Value}, (∀ i, i < n → fitsL a ((cs.drop (i * a.length)).take a.length)) → cs.length = n * a.length → fitsL (List.replicate n a).flatten cs
  | 0, cs, _, hl => by
    have : cs = [] := List.eq_nil_of_length_eq_zero (by omega)
    subst this
    trivial
  | n + 1, cs, h, hl => by
    rw [List.replicate_succ, List.flatten_cons]
    have h0 := h 0 (by omega)
    rw [Nat.zero_mul, List.drop_zero] at h0
    have := fitsL_append h0 (fits_rows (n := n) (cs := cs.drop a.length) (fun i hi => by
      have := h (i + 1) (by omega)
      rw [List.drop_drop]
      rwa [Nat.add_mul, Nat.one_mul, Nat.add_comm] at this) (by rw [List.length_drop, hl, Nat.add_mul]; omega))
    rwa [List.take_append_drop] at this

theorem trod_fits : ∀ {d : Nat} {t : TypeId} {a : List LK} {fuel : Nat} {cs : List Value} {x : DataW H × List MemPlace}, lks P d t = some a → DataW.trod enc P w base sp held fuel t cs = some x → fitsL a cs
  | 0, _, _, _, _, _, h, _ => by cases h
  | d + 1, t, a, fuel, cs, x, h, hx => by
    unfold lks at h
    split at h
    · rename_i hu
      obtain ⟨b, rfl, _⟩ := DataW.trod_bool hu hx
      simp only [Option.some.injEq] at h; subst h
      exact ⟨trivial, trivial⟩
    · rename_i k hu
      obtain ⟨n, rfl, _, hw⟩ := DataW.trod_int hu hx
      simp only [Option.some.injEq] at h; subst h
      exact ⟨⟨rfl, hw⟩, trivial⟩
    · rename_i hu
      obtain ⟨s, rfl, _, hs⟩ := DataW.trod_string hu hx
      simp only [Option.some.injEq] at h; subst h
      exact ⟨hs, trivial⟩
    · rename_i fs hu
      split at h
      · rename_i a' ha
        split at h
        · rename_i hc
          simp only [Option.some.injEq] at h; subst h
          obtain ⟨xs, n, rfl, _, hl, hn, hf⟩ := DataW.trod_struct hu hx
          have := fits_fields (cs := cs) (fun h1 h2 => trod_fits (d := d) h1 h2) ha (fun f hm => by
            obtain ⟨i, hi, e⟩ := List.mem_iff_getElem.1 hm
            have e' : fs[i]? = some f := by rw [← e]; simp at hi ⊢
            have hlt : i < xs.length := by simp at hi; omega
            exact ⟨xs[i], by rw [hf i f e']; simp [hlt]⟩)
          rw [List.drop_zero, List.take_of_length_le (by rw [hl, Nat.eq_of_beq_eq_true hc]; exact Nat.le_refl _)] at this
          exact this
        · cases h
      · cases h
    · rename_i n e hu
      split at h
      · rename_i a' ha
        split at h
        · rename_i hc
          simp only [Bool.and_eq_true] at hc
          simp only [Option.some.injEq] at h; subst h
          obtain ⟨xs, m, rfl, _, hl, hn, hf⟩ := DataW.trod_array hu hx
          have h1 := Nat.eq_of_beq_eq_true hc.1
          have h2 := Nat.eq_of_beq_eq_true hc.2
          refine fits_rows (fun i hi => ?_) (by rw [hl, h2])
          have := hf i hi
          have hlt : i < xs.length := by omega
          rw [h1, List.getElem?_eq_getElem hlt] at this
          exact trod_fits ha this
        · cases h
      · cases h
    · cases h

/-- A struct or an array of flat things, opened: a row of cells that fit. -/
theorem open_flat {d : Nat} {t : TypeId} {a : List LK} {r : Reach} {b0 : Nat} {v : Value} {x : DataW H} {ps : List MemPlace} (ha : lks P d t = some a)
    (hs : (match P.underlying t with | some (.struct _) | some (.array _ _) => true | _ => false) = true)
    (hval : Value.okWide P w r b0 t v) (hd : DataW.Trod enc P w base sp held t v x ps) : ∃ cs : List Value, v = .agg cs.toArray ∧ fitsL a cs := by
  obtain ⟨fuel, hf⟩ := hd
  have : ∃ cs : Array Value, v = .agg cs := by
    unfold Value.okWide at hval
    split at hval
    · obtain ⟨cs, h, _⟩ := hval; exact ⟨cs, h⟩
    · obtain ⟨cs, h, _⟩ := hval; exact ⟨cs, h⟩
    · rename_i h1 h2
      split at hs
      · rename_i e; exact (h1 _ e).elim
      · rename_i e; exact (h2 _ _ e).elim
      · cases hs
  obtain ⟨cs, rfl⟩ := this
  exact ⟨cs.toList, rfl, trod_fits ha hf⟩

/-! ## What is behind a law's run -/
theorem trodAll_carry (hl : laidOutB P = true) {W W' : World} (hb : Below W.heap.size W W') {sp' : Nat → Bool} :
    ∀ {ts : List TypeId} {vs : List Value} {ds : List (DataW H)} {ps : List MemPlace}, ts.all (fun t => P.readableRec t && Nat.blt t P.types.size) = true →
      DataW.TrodAll enc P W 0 (fun _ => true) true ts vs ds ps → (∀ x ∈ ps, x.block < W.heap.size) → (∀ x ∈ ps, sp' x.block = true) → DataW.TrodAll enc P W' 0 sp' true ts vs ds ps
  | [], _, _, _, _, h, _, _ => by
    obtain ⟨rfl, rfl, rfl⟩ := trodAll_nil h
    exact rfl
  | t :: ts, _, _, _, hr, h, hlt, hsp => by
    obtain ⟨v, vs, d, ds, p, q, rfl, rfl, rfl, h1, h2⟩ := trodAll_cons h
    simp only [List.all_cons, Bool.and_eq_true] at hr
    obtain ⟨⟨hr1, hr2⟩, hr3⟩ := hr
    refine trodAll_cons_mk (Go.WideElems.Trod_stays hl hr1 (by simpa [Nat.blt, Nat.succ_le_iff] using hr2) h1 (fun x hx => hb.same (hlt x (by simp [hx]))) (fun x hx => hsp x (by simp [hx])))
      (trodAll_carry hl hb hr3 h2 (fun x hx => hlt x (by simp [hx])) (fun x hx => hsp x (by simp [hx])))

/-- A law that answers true, and leaves its arguments as they were. -/
theorem law_post {f : Func} {s : ChangeSpec} {fresh handsOn again : Bool} {W W' : World} {args : Array Value} {ds gs : List (DataW H)} {before : List MemPlace} {tb : TypeId}
    (hl : laidOutB P = true) (hp : f.params.toList.all (fun t => P.readableRec t && Nat.blt t P.types.size) = true) (hr : f.resultTypes = #[tb]) (hu : P.underlying tb = some .bool) (hv : s.vars = [])
    (hs : s.fn H (ds ++ gs) = { results := [.lit (.bool true)], args := ds, vars := [] })
    (hW : DataW.Whole enc P f.params.toList s.vars false W args.toList ds gs before) (hb : Below W.heap.size W W') :
    s.post enc P f false fresh handsOn again W args (.bool true) W' := by
  have hlt : ∀ p ∈ before, p.block < W.heap.size := fun p hp => hW.lt p hp
  have hW0 := hW
  obtain ⟨p, q, hA, hV, he, hz, hn⟩ := hW
  rw [hv] at hV
  obtain ⟨rfl, rfl⟩ := trodVars_none hV
  rw [List.append_nil] at he
  subst he
  have hres : ∀ (b : Nat) (sp : Nat → Bool) (hd : Bool), DataW.TrodAll enc P W' b sp hd f.resultTypes.toList (Value.resultList f.resultTypes.size (.bool true)) (s.fn H (ds ++ [])).results [] := by
    intro b sp hd
    rw [hs, hr]
    exact trodAll_mk1 (shut_bool hu true)
  have hargs : ∀ sp : Nat → Bool, (∀ x ∈ before, sp x.block = true) → DataW.TrodAll enc P W' 0 sp true f.params.toList args.toList (s.fn H (ds ++ [])).args before := by
    intro sp hsp
    rw [hs]
    exact trodAll_carry hl hb hp hA hlt hsp
  have hvars : ∀ sp : Nat → Bool, DataW.TrodVars enc P W' sp s.vars (s.fn H (ds ++ [])).vars [] := by
    intro sp
    rw [hv, hs]
    exact rfl
  refine ⟨ds, [], before, [], before, [], hW0, hres _ _ _, hargs _ (fun x hx => by simpa using hlt x hx), hvars _, World.keptBut_mono (fun x hx => ⟨hx, .inr (.inl hx)⟩) (hb.frame (· ∈ before)), fun _ => ⟨?_, _, [], before, ⟨before, [], trodAll_append (hargs _ (fun _ _ => rfl)) (hres _ _ _), ?_, (List.append_nil _).symm, ?_, ?_⟩, fun x hx _ => hx⟩⟩
  · refine ok_one hr rfl ?_
    unfold Value.okWide
    rw [hu]
    unfold Cell.okWide
    rw [hu]
    unfold Cell.ok
    rw [hu]
    trivial
  · have := hvars (fun _ => true)
    rw [hs] at this
    exact this
  · intro b off hm
    rw [hb.frozen (hlt _ hm)]
    exact hz b off hm
  · intro h; cases h
end
end Go.Sx
end

section
/-
  The cards of package wide's functions, one upon another.
-/
namespace Go.Proofs.YtbfcccoeekonlaaGreatDoor
open Go.Sx

theorem CxOK_nil : CxOK Tryz.prog Cx.none := fun _ h => by cases h
theorem CxOK_cons {f : Nat} {s : FSpec} {l : List (Nat × FSpec)} {gl : Globs} (h : FnOKg Tryz.prog gl f s) (hs : CxOK Tryz.prog ⟨l, gl, 0⟩) : CxOK Tryz.prog ⟨(f, s) :: l, gl, 0⟩ := by
  intro p hp
  rcases List.mem_cons.1 hp with rfl | hp
  · exact h
  · exact hs p hp

theorem bnd_U (n : Nat) : SA.bnd none0 (sU n) := by
  intro k hk; simp only [List.mem_singleton] at hk; subst hk; trivial
theorem bnd_I (k : IntKind) (n : Int) : SA.bnd none0 (sI k n) := trivial
theorem bnd_B (b : Bool) : SA.bnd none0 (sB b) := trivial
theorem bnd_one {x : SA} (h : x.bnd none0) : SV.bnd none0 (.one x) := h
theorem bnd_two {x y : SA} (h : x.bnd none0) (h' : y.bnd none0) : SV.bnd none0 (.tup [x, y]) := by
  intro z hz
  simp only [List.mem_cons, List.not_mem_nil, or_false] at hz
  rcases hz with rfl | rfl
  · exact h
  · exact h'

theorem card_Add64 : FnOK Tryz.prog 92 specAdd64 := FnOK_add64 Tryz.func92 (by kernel_rfl) (by kernel_rfl) (by kernel_rfl) (by kernel_rfl)
theorem card_Sub64 : FnOK Tryz.prog 56 specSub64 := FnOK_sub64 Tryz.func56 (by kernel_rfl) (by kernel_rfl) (by kernel_rfl) (by kernel_rfl)
theorem cxok_plus : CxOK Tryz.prog cxPlus := CxOK_cons card_Add64 CxOK_nil
theorem card_plus : FnOK Tryz.prog 73 (specUU plusG) :=
  FnOK_UU cxok_plus (iv := []) (N := 100) Tryz.func73 (by kernel_rfl) (by kernel_rfl) (fun a b => by unfold plusG; exact bnd_two (bnd_U _) (bnd_I _ _)) ok_plus
theorem cxok_less : CxOK Tryz.prog cxLess := CxOK_cons card_Sub64 CxOK_nil
theorem card_less : FnOK Tryz.prog 35 (specUU lessG) :=
  FnOK_UU cxok_less (iv := []) (N := 100) Tryz.func35 (by kernel_rfl) (by kernel_rfl) (fun a b => by unfold lessG; exact bnd_two (bnd_U _) (bnd_I _ _)) ok_less
theorem cxok_Add : CxOK Tryz.prog cxAdd := CxOK_cons card_plus CxOK_nil
theorem card_Add : FnOK Tryz.prog 50 (specUU addG) :=
  FnOK_UU cxok_Add (iv := []) (N := 100) Tryz.func50 (by kernel_rfl) (by kernel_rfl) (fun a b => by unfold addG; exact bnd_two (bnd_U _) (bnd_B _)) ok_Add
theorem cxok_Sub : CxOK Tryz.prog cxSub := CxOK_cons card_less CxOK_nil
theorem card_Sub : FnOK Tryz.prog 14 (specUU subG) :=
  FnOK_UU cxok_Sub (iv := []) (N := 100) Tryz.func14 (by kernel_rfl) (by kernel_rfl) (fun a b => by unfold subG; exact bnd_two (bnd_U _) (bnd_B _)) ok_Sub
theorem card_Cmp : FnOK Tryz.prog 15 (specUU cmpG) :=
  FnOK_UU CxOK_nil (iv := []) (N := 100) Tryz.func15 (by kernel_rfl) (by kernel_rfl) (fun a b => by unfold cmpG; exact bnd_one (bnd_I _ _)) ok_Cmp
end Go.Proofs.YtbfcccoeekonlaaGreatDoor
end

section
/-
  The cards of products.
-/
namespace Go.Proofs.YtbfcccoeekonlaaGreatDoor
open Go.Sx

theorem card_Mul64 : FnOK Tryz.prog 104 (specWW mul64G) :=
  FnOK_WW CxOK_nil (iv := []) (N := 100) Tryz.func104 (by kernel_rfl) (by kernel_rfl) (fun a b => by unfold mul64G; exact bnd_two (bnd_I _ _) (bnd_I _ _)) ok_Mul64
theorem cxok_times : CxOK Tryz.prog cxTimes2 := CxOK_cons card_Mul64 (CxOK_cons card_Add64 CxOK_nil)
theorem card_times : FnOK Tryz.prog 83 (specUI timesG) :=
  FnOK_UI cxok_times (iv := []) (N := 100) Tryz.func83 (by kernel_rfl) (by kernel_rfl) (fun a n => by unfold timesG; exact bnd_two (bnd_U _) (bnd_I _ _)) ok_times
theorem cxok_Mul : CxOK Tryz.prog cxMul2 := CxOK_cons card_Mul64 (CxOK_cons card_Add64 CxOK_nil)
theorem card_Mul : FnOK Tryz.prog 100 (specUU mulG) :=
  FnOK_UU cxok_Mul (iv := []) (N := 100) Tryz.func100 (by kernel_rfl) (by kernel_rfl) (fun a b => by unfold mulG; exact bnd_two (bnd_U _) (bnd_U _)) ok_Mul
end Go.Proofs.YtbfcccoeekonlaaGreatDoor
end
