/-
  Texts: V14, V6, V4, P1, P2, P3, P4, P5, P6, P7, C1, C2, P9, P12, P13.
-/
import Derived.Test.YtohnkglcabfpjaaM1
import Derived.Test.YtohnkglcabfpjaaM2
import Derived.Test.YtohnkglcabfpjaaM3
import Derived.Test.YtohnkglcabfpjaaM4
import Derived.Test.YtohnkglcabfpjaaM5
import Derived.Test.YtohnkglcabfpjaaM6
import Derived.Test.YtohnkglcabfpjaaM7
import Derived.Test.YtohnkglcabfpjaaM8
import Derived.Test.YtohnkglcabfpjaaM9
import Derived.Lib.Mul64
section
namespace Go.Proofs.Ytohnkglcabfpjaa
open Go.Sx
set_option maxRecDepth 100000
abbrev pPt : List PK := [.u, .u, .b]
abbrev pCv : List PK := [.u, .u, .u, .u, .u, .u, .b]
abbrev Pt := Nat × Nat × Bool
abbrev sPt (x y : Nat) (f : Bool) : SA := .agg [.u x, .u y, .c (.val (.bool f))]
abbrev sCv (P A B N X Y : Nat) (F : Bool) : SA := .agg [.u P, .u A, .u B, .u N, .u X, .u Y, .c (.val (.bool F))]
def ptS (p : Pt) : SA := .agg [.u p.1, .u p.2.1, .c (.val (.bool p.2.2))]
def red (x y : Nat) (f : Bool) : Pt := (x % M256, y % M256, f)
def tw3 (m x : Nat) : Nat := (x + (x + x) % m) % m
def rhsN (m A B x : Nat) : Nat := ((x * (x * x % m) % m + A * x % m) % m + B) % m
def slopesN (m A B : Nat) : Nat := (((A * (A * A % m) % m + A * (A * A % m) % m) % m + (A * (A * A % m) % m + A * (A * A % m) % m) % m) % m + tw3 m (tw3 m (tw3 m (B * B % m)))) % m
def slopeN (m A : Nat) (p q : Pt) : Nat :=
  if p = q then (tw3 m (p.1 * p.1 % m) + A) % m * invN ((p.2.1 + p.2.1) % m) m % m
  else (q.2.1 + m - p.2.1) % m * invN ((q.1 + m - p.1) % m) m % m
def throughN (m : Nat) (s : Nat) (p q : Pt) : Pt :=
  (((s * s % m + m - p.1) % m + m - q.1) % m, (s * ((p.1 + m - ((s * s % m + m - p.1) % m + m - q.1) % m) % m) % m + m - p.2.1) % m, false)
def csum (m A : Nat) (p q : Pt) : Pt :=
  if p.2.2 = true then q else if q.2.2 = true then p else if p.1 = q.1 ∧ (p.2.1 + q.2.1) % m = 0 then (0, 0, true) else throughN m (slopeN m A p q) p q
structure inP (m : Nat) (p : Pt) : Prop where
  lt : p.2.2 = false → p.1 < m ∧ p.2.1 < m
structure slopeOK (m : Nat) (p q : Pt) : Prop where
  eq : p = q → Nat.gcd ((p.2.1 + p.2.1) % m) m = 1
  ne : p ≠ q → Nat.gcd ((q.1 + m - p.1) % m) m = 1
structure sumOK (m A : Nat) (p q : Pt) : Prop where
  A0 : A < m
  p0 : inP m p
  q0 : inP m q
  sl : p.2.2 = false → q.2.2 = false → ¬ (p.1 = q.1 ∧ (p.2.1 + q.2.1) % m = 0) → slopeOK m p q
structure onP (m A B : Nat) (p : Pt) : Prop where
  far : p.2.2 = true → p.1 = 0 ∧ p.2.1 = 0
  near : p.2.2 = false → p.1 < m ∧ p.2.1 < m ∧ p.2.1 * p.2.1 % m = rhsN m A B p.1
structure goodP (P A B N : Nat) (b : Pt) : Prop where
  P3 : 3 < P
  P4 : P % 4 = 3
  N1 : 1 < N
  A0 : A < P
  B0 : B < P
  s0 : slopesN P A B ≠ 0
  b0 : b.2.2 = false
  on : onP P A B b
def cmulR (m A k : Nat) (p : Pt) : Nat → Pt
  | 0 => (0, 0, true)
  | n + 1 => if k.testBit (255 - n) = true then csum m A (csum m A (cmulR m A k p n) (cmulR m A k p n)) p else csum m A (cmulR m A k p n) (cmulR m A k p n)
structure mulOK (m A k : Nat) (p : Pt) : Prop where
  dbl : ∀ n, n < 256 → sumOK m A (cmulR m A k p n) (cmulR m A k p n)
  add : ∀ n, n < 256 → k.testBit (255 - n) = true → sumOK m A (csum m A (cmulR m A k p n) (cmulR m A k p n)) p
def rightC : List (List At) → List Prop
  | [[.u m], [.u _, .u A, .u B, .u _, .u _, .u _, .b _], [.u x]] => [A % M256 < m % M256, B % M256 < m % M256, x % M256 < m % M256]
  | _ => [False]
def rightG : List (List At) → SV
  | [[.u m], [.u _, .u A, .u B, .u _, .u _, .u _, .b _], [.u x]] => .one (sU (rhsN (m % M256) (A % M256) (B % M256) (x % M256)))
  | _ => .tup []
def slopesC : List (List At) → List Prop
  | [[.u m], [.u _, .u A, .u B, .u _, .u _, .u _, .b _]] => [A % M256 < m % M256, B % M256 < m % M256]
  | _ => [False]
def slopesG : List (List At) → SV
  | [[.u m], [.u _, .u A, .u B, .u _, .u _, .u _, .b _]] => .one (sU (slopesN (m % M256) (A % M256) (B % M256)))
  | _ => .tup []
def haveC : List (List At) → List Prop
  | [[.u m], [.u _, .u A, .u B, .u _, .u _, .u _, .b _], [.u x, .u y, .b f]] => [A % M256 < m % M256, B % M256 < m % M256, onP (m % M256) (A % M256) (B % M256) (red x y f)]
  | _ => [False]
def voidG : List (List At) → SV := fun _ => .tup []
def beC : List (List At) → List Prop
  | [[.u m], [.u P, .u A, .u B, .u N, .u X, .u Y, .b F]] => [m % M256 = P % M256, goodP (P % M256) (A % M256) (B % M256) (N % M256) (red X Y F)]
  | _ => [False]
def slopeC : List (List At) → List Prop
  | [[.u m], [.u A], [.u x, .u y, .b f], [.u z, .u w, .b g]] => [A % M256 < m % M256, f = false, g = false, inP (m % M256) (red x y f), inP (m % M256) (red z w g), slopeOK (m % M256) (red x y f) (red z w g)]
  | _ => [False]
def slopeG : List (List At) → SV
  | [[.u m], [.u A], [.u x, .u y, .b f], [.u z, .u w, .b g]] => .one (sU (slopeN (m % M256) (A % M256) (red x y f) (red z w g)))
  | _ => .tup []
def sumPC : List (List At) → List Prop
  | [[.u m], [.u A], [.u x, .u y, .b f], [.u z, .u w, .b g]] => [sumOK (m % M256) (A % M256) (red x y f) (red z w g)]
  | _ => [False]
def sumPG : List (List At) → SV
  | [[.u m], [.u A], [.u x, .u y, .b f], [.u z, .u w, .b g]] => .one (ptS (csum (m % M256) (A % M256) (red x y f) (red z w g)))
  | _ => .tup []
def oddG (a : Nat) : SV := .one (sB (a % M256 % 2 == 1))
def farG : SV := .one (.agg [.u 0, .u 0, .c (.bit true)])
def cAddC : List (List At) → List Prop
  | [[.u P, .u A, .u B, .u N, .u X, .u Y, .b F], [.u x, .u y, .b f], [.u z, .u w, .b g]] => [goodP (P % M256) (A % M256) (B % M256) (N % M256) (red X Y F), onP (P % M256) (A % M256) (B % M256) (red x y f), onP (P % M256) (A % M256) (B % M256) (red z w g), sumOK (P % M256) (A % M256) (red x y f) (red z w g)]
  | _ => [False]
def cAddG : List (List At) → SV
  | [[.u P, .u A, .u _, .u _, .u _, .u _, .b _], [.u x, .u y, .b f], [.u z, .u w, .b g]] => .tup [ptS (csum (P % M256) (A % M256) (red x y f) (red z w g)), .sc (.num .i64 0)]
  | _ => .tup []
def cMultC : List (List At) → List Prop
  | [[.u P, .u A, .u B, .u N, .u X, .u Y, .b F], [.u k], [.u x, .u y, .b f]] => [goodP (P % M256) (A % M256) (B % M256) (N % M256) (red X Y F), onP (P % M256) (A % M256) (B % M256) (red x y f), mulOK (P % M256) (A % M256) (k % M256) (red x y f)]
  | _ => [False]
def cMultG : List (List At) → SV
  | [[.u P, .u A, .u _, .u _, .u _, .u _, .b _], [.u k], [.u x, .u y, .b f]] => .tup [ptS (cmulR (P % M256) (A % M256) (k % M256) (red x y f) 256), .sc (.num .i64 0)]
  | _ => .tup []
def cOnC : List (List At) → List Prop
  | [[.u P, .u A, .u B, .u N, .u X, .u Y, .b F], [.u x, .u y, .b f]] => [goodP (P % M256) (A % M256) (B % M256) (N % M256) (red X Y F), f = true → x % M256 = 0 ∧ y % M256 = 0, f = false → x % M256 < P % M256 ∧ y % M256 < P % M256]
  | _ => [False]
def onE (P A B : Nat) (p : Pt) : Int := if p.2.2 = true then 0 else if p.2.1 * p.2.1 % P = rhsN P A B p.1 then 0 else 16
def cOnG : List (List At) → SV
  | [[.u P, .u A, .u B, .u _, .u _, .u _, .b _], [.u x, .u y, .b f]] => .one (sI .i64 (onE (P % M256) (A % M256) (B % M256) (red x y f)))
  | _ => .tup []
def cRight : FSpec := specA [.hand, .str pCv, .str [.u]] rightC rightG
def cSlopes : FSpec := specA [.hand, .str pCv] slopesC slopesG
def cHave : FSpec := specA [.hand, .str pCv, .str pPt] haveC voidG
def cBe : FSpec := specA [.hand, .str pCv] beC voidG
def cSlope : FSpec := specA [.hand, .str [.u], .str pPt, .str pPt] slopeC slopeG
def cSum : FSpec := specA [.hand, .str [.u], .str pPt, .str pPt] sumPC sumPG
def cxRight : Cx := [(59, cHadd), (58, cHmul)]
def cxSlopes : Cx := [(59, cHadd), (58, cHmul), (79, cTwice), (80, cThrice)]
def cxHave : Cx := [(58, cHmul), (42, cRight), (36, spec0 farG)]
def cxBe : Cx := [(40, specUU cmpG), (57, cSlopes), (31, cHave)]
def cxSlope : Cx := [(59, cHadd), (44, cHsub), (58, cHmul), (81, cHdiv), (79, cTwice), (80, cThrice)]
def cxSumP : Cx := [(59, cHadd), (44, cHsub), (58, cHmul), (60, cSlope), (36, spec0 farG)]
abbrev tErr : Go.TypeId := 31
abbrev sHd (m : Nat) : SA := .agg [.u m, .c (.ptr 0 0)]
def tdV (n : Int) (p : Pt) : Pt := if n = 0 then p else (0, 0, false)
def tdG : List (List At) → Int → SV
  | [[.u _], [.u x, .u y, .b f]], e => .tup [ptS (tdV e (x, y, f)), sI .i64 e]
  | _, _ => .tup []
def tdC : List (List At) → List Prop
  | [[.u _], [.u _, .u _, .b _]] => []
  | _ => [False]
def cTd : WSpec := specWn tErr .i64 [.hand, .str pPt] tdC tdG (fun _ n => n)
def cxCAdd : Cx := ⟨[(30, cBe), (31, cHave), (33, cSum)], [], 0, [(32, cTd)]⟩
def cxCMult : Cx := ⟨[(30, cBe), (31, cHave), (33, cSum), (36, spec0 farG)], [], 0, [(32, cTd)]⟩
def cxCOn : Cx := [(30, cBe), (58, cHmul), (42, cRight), (36, spec0 farG)]
def invMult (P A B N X Y : Nat) (F : Bool) (k x y : Nat) (f : Bool) : Inv where
  X := Nat
  tm j := slotsAt 57 [(3, .one (.sc (.ptr 0 0))), (4, .one (.sc (.ptr 1 0))), (5, .one (.sc (.ptr 2 0))), (6, .one (.sc (.ptr 3 0))), (8, .one (.sc (.ptr 4 0))), (9, .one (.sc (.ptr 5 0))), (10, .one (.sc (.ptr 6 0))), (11, .one (sI .i64 (255 - (j : Int))))]
  ob j := [.cells 28 [.u P, .u A, .u B, .u N, .u X, .u Y, .c (.val (.bool F))] 0, .cells 24 [.u k] 0, .cells 26 [.u x, .u y, .c (.val (.bool f))] 0, .cells 26 (zeroU ++ zeroU ++ [.c (.bit false)]) 0, .cells 31 [.c (.num .i64 0)] 0, .cells 65 [.u P, .c (.ptr 4 0)] 0, .cells 26 [.u (cmulR (P % M256) (A % M256) (k % M256) (red x y f) j).1, .u (cmulR (P % M256) (A % M256) (k % M256) (red x y f) j).2.1, .c (.val (.bool (cmulR (P % M256) (A % M256) (k % M256) (red x y f) j).2.2))] 0]
  holds j := j ≤ 256
  less j := 256 - j
theorem vc_right (m P A B N X Y x : Nat) (F : Bool) (v : Option Addr) :
    Owes Try.prog cxRight [] 100 Try.f42 [sHand m v, sCv P A B N X Y F, sU x] (rightG [[.u m], [.u P, .u A, .u B, .u N, .u X, .u Y, .b F], [.u x]]) =
    (let x1 : Nat := x % M256; let x2 : Nat := m % M256; let x3 : Nat := x1 * x1 % x2 % M256; let x4 : Nat := A % M256; let x5 : Nat := x1 * x3 % x2 % M256; let x6 : Nat := x4 * x1 % x2 % M256; let x7 : Nat := (x5 + x6) % x2 % M256; let x8 : Nat := B % M256; x1 < x2 ∧ x1 < x2 ∧ x1 < x2 ∧ x3 < x2 ∧ x4 < x2 ∧ x1 < x2 ∧ x5 < x2 ∧ x6 < x2 ∧ x7 < x2 ∧ x8 < x2 ∧ (x7 + x8) % x2 % M256 = rhsN x2 x4 x8 x1 % M256 ∧ True) := by kernel_rfl
theorem vc_slopes (m P A B N X Y : Nat) (F : Bool) (v : Option Addr) :
    Owes Try.prog cxSlopes [] 100 Try.f57 [sHand m v, sCv P A B N X Y F] (slopesG [[.u m], [.u P, .u A, .u B, .u N, .u X, .u Y, .b F]]) =
    (let x1 : Nat := A % M256; let x2 : Nat := m % M256; let x3 : Nat := x1 * x1 % x2 % M256; let x4 : Nat := B % M256; let x5 : Nat := x1 * x3 % x2 % M256; let x6 : Nat := (x5 + x5) % x2 % M256; let x7 : Nat := x4 * x4 % x2 % M256; let x8 : Nat := (x7 + (x7 + x7) % x2) % x2 % M256; let x9 : Nat := (x8 + (x8 + x8) % x2) % x2 % M256; let x10 : Nat := (x6 + x6) % x2 % M256; let x11 : Nat := (x9 + (x9 + x9) % x2) % x2 % M256; x1 < x2 ∧ x1 < x2 ∧ x1 < x2 ∧ x3 < x2 ∧ x4 < x2 ∧ x4 < x2 ∧ x5 < x2 ∧ x6 < x2 ∧ x7 < x2 ∧ x8 < x2 ∧ x9 < x2 ∧ x10 < x2 ∧ x11 < x2 ∧ (x10 + x11) % x2 % M256 = slopesN x2 x1 x4 % M256 ∧ True) := by kernel_rfl
theorem vc_have (m P A B N X Y x y : Nat) (F f : Bool) (v : Option Addr) :
    Owes Try.prog cxHave [] 100 Try.f31 [sHand m v, sCv P A B N X Y F, sPt x y f] (.tup []) =
    (let x1 : Nat := x % M256; let x2 : Nat := y % M256; let x3 : Nat := m % M256; let x4 : Nat := A % M256; let x5 : Nat := B % M256; (f = Bool.true → ((!conj [x1 == 0, x2 == 0, f == Bool.true]) = Bool.true → Stuck { dst := Option.some 8, op := Go.Op.nilCheck (Go.Operand.tmp 7), type := 0, pos := "hand.go:19", after := #[{ on := 1, ground := Go.Ground.data }, { on := 0, ground := Go.Ground.phase }, { on := 1, ground := Go.Ground.phase }], guard := Option.none }) ∧ ((!conj [x1 == 0, x2 == 0, f == Bool.true]) = Bool.false → True)) ∧ (f = Bool.false → x2 < x3 ∧ x2 < x3 ∧ x4 < x3 ∧ x5 < x3 ∧ x1 < x3 ∧ ((!conj [x2 * x2 % x3 % M256 == rhsN x3 x4 x5 x1 % M256]) = Bool.true → Stuck { dst := Option.some 8, op := Go.Op.nilCheck (Go.Operand.tmp 7), type := 0, pos := "hand.go:19", after := #[{ on := 1, ground := Go.Ground.data }, { on := 0, ground := Go.Ground.phase }, { on := 1, ground := Go.Ground.phase }], guard := Option.none }) ∧ ((!conj [x2 * x2 % x3 % M256 == rhsN x3 x4 x5 x1 % M256]) = Bool.false → True))) := by kernel_rfl
theorem vc_be (m P A B N X Y : Nat) (F : Bool) (v : Option Addr) :
    Owes Try.prog cxBe [] 100 Try.f30 [sHand m v, sCv P A B N X Y F] (.tup []) =
    (let x1 : Bool := Decidable.decide (cmpN P 3 > (0 : Int)); let x2 : Nat := A % M256; let x3 : Nat := m % M256; let x4 : Nat := B % M256; (x1 = Bool.true → x1 = Bool.true) ∧ (x1 = Bool.true → x1 = Bool.true) ∧ (x1 = Bool.true → x1 = Bool.true) ∧ (x1 = Bool.true → x1 = Bool.true) ∧ (x1 = Bool.true → x1 = Bool.true) ∧ ((!(x1 && (limb P 0).tmod (4 : Int) == (3 : Int))) = Bool.true → Stuck { dst := Option.some 8, op := Go.Op.nilCheck (Go.Operand.tmp 7), type := 0, pos := "hand.go:19", after := #[{ on := 1, ground := Go.Ground.data }, { on := 0, ground := Go.Ground.phase }, { on := 1, ground := Go.Ground.phase }], guard := Option.none }) ∧ ((!(x1 && (limb P 0).tmod (4 : Int) == (3 : Int))) = Bool.false → ((!Decidable.decide (cmpN N 1 > (0 : Int))) = Bool.true → Stuck { dst := Option.some 8, op := Go.Op.nilCheck (Go.Operand.tmp 7), type := 0, pos := "hand.go:19", after := #[{ on := 1, ground := Go.Ground.data }, { on := 0, ground := Go.Ground.phase }, { on := 1, ground := Go.Ground.phase }], guard := Option.none }) ∧ ((!Decidable.decide (cmpN N 1 > (0 : Int))) = Bool.false → x2 < x3 ∧ x4 < x3 ∧ ((!!conj [slopesN x3 x2 x4 % M256 == 0]) = Bool.true → Stuck { dst := Option.some 8, op := Go.Op.nilCheck (Go.Operand.tmp 7), type := 0, pos := "hand.go:19", after := #[{ on := 1, ground := Go.Ground.data }, { on := 0, ground := Go.Ground.phase }, { on := 1, ground := Go.Ground.phase }], guard := Option.none }) ∧ ((!!conj [slopesN x3 x2 x4 % M256 == 0]) = Bool.false → ((!!F) = Bool.true → Stuck { dst := Option.some 8, op := Go.Op.nilCheck (Go.Operand.tmp 7), type := 0, pos := "hand.go:19", after := #[{ on := 1, ground := Go.Ground.data }, { on := 0, ground := Go.Ground.phase }, { on := 1, ground := Go.Ground.phase }], guard := Option.none }) ∧ ((!!F) = Bool.false → x2 < x3 ∧ x4 < x3 ∧ onP x3 x2 x4 (red X Y F) ∧ True))))) := by kernel_rfl
theorem vc_slope (m A x y z w : Nat) (f g : Bool) (v : Option Addr) :
    Owes Try.prog cxSlope [] 100 Try.f60 [sHand m v, sU A, sPt x y f, sPt z w g] (slopeG [[.u m], [.u A], [.u x, .u y, .b f], [.u z, .u w, .b g]]) =
    (let x1 : Nat := x % M256; let x2 : Nat := z % M256; let x3 : Nat := y % M256; let x4 : Nat := w % M256; let x5 : Nat := m % M256; let x6 : Nat := x1 * x1 % x5 % M256; let x7 : Nat := (x6 + (x6 + x6) % x5) % x5 % M256; let x8 : Nat := A % M256; let x9 : Nat := (x7 + x8) % x5 % M256; let x10 : Nat := (x3 + x3) % x5 % M256; let x11 : Nat := slopeN x5 x8 (red x y f) (red z w g) % M256; let x12 : Nat := (x4 + x5 - x3) % x5 % M256; let x13 : Nat := (x2 + x5 - x1) % x5 % M256; (conj [x1 == x2, x3 == x4, f == g] = Bool.true → x1 < x5 ∧ x1 < x5 ∧ x6 < x5 ∧ x7 < x5 ∧ x8 < x5 ∧ x3 < x5 ∧ x9 < x5 ∧ x10 < x5 ∧ x10.gcd x5 = 1 ∧ x9 * invN x10 x5 % x5 % M256 = x11 ∧ True) ∧ (conj [x1 == x2, x3 == x4, f == g] = Bool.false → x4 < x5 ∧ x3 < x5 ∧ x2 < x5 ∧ x1 < x5 ∧ x12 < x5 ∧ x13 < x5 ∧ x13.gcd x5 = 1 ∧ x12 * invN x13 x5 % x5 % M256 = x11 ∧ True)) := by kernel_rfl
theorem vc_sumP (m A x y z w : Nat) (f g : Bool) (v : Option Addr) :
    Owes Try.prog cxSumP [] 100 Try.f33 [sHand m v, sU A, sPt x y f, sPt z w g] (sumPG [[.u m], [.u A], [.u x, .u y, .b f], [.u z, .u w, .b g]]) =
    (let x1 : Nat := z % M256; let x2 : Nat := m % M256; let x3 : Nat := A % M256; let x4 : Nat := (csum x2 x3 (red x y f) (red z w g)).fst % M256; let x5 : Nat := w % M256; let x6 : Nat := (csum x2 x3 (red x y f) (red z w g)).snd.fst % M256; let x7 : Bool := (csum x2 x3 (red x y f) (red z w g)).snd.snd; let x8 : Nat := x % M256; let x9 : Nat := y % M256; let x10 : Bool := conj [x8 == x1]; let x11 : Nat := slopeN x2 x3 (red x y f) (red z w g) % M256; let x12 : Nat := x11 * x11 % x2 % M256; let x13 : Nat := (x12 + x2 - x8) % x2 % M256; let x14 : Nat := (x13 + x2 - x1) % x2 % M256; let x15 : Nat := (x8 + x2 - x14) % x2 % M256; let x16 : Nat := x11 * x15 % x2 % M256; (f = Bool.true → x1 = x4 ∧ x5 = x6 ∧ g = x7 ∧ True) ∧ (f = Bool.false → (g = Bool.true → x8 = x4 ∧ x9 = x6 ∧ f = x7 ∧ True) ∧ (g = Bool.false → (x10 = Bool.true → x10 = Bool.true) ∧ (x10 = Bool.true → x10 = Bool.true) ∧ (x10 = Bool.true → x10 = Bool.true) ∧ (x10 = Bool.true → x10 = Bool.true) ∧ (x10 = Bool.true → x10 = Bool.true) ∧ (x10 = Bool.true → x9 < x2) ∧ (x10 = Bool.true → x5 < x2) ∧ (x10 = Bool.true → x10 = Bool.true) ∧ (x10 = Bool.true → x10 = Bool.true) ∧ (x10 = Bool.true → x10 = Bool.true) ∧ ((x10 && conj [(x9 + x5) % x2 % M256 == 0]) = Bool.true → 0 = x4 ∧ 0 = x6 ∧ Bool.true = x7 ∧ True) ∧ ((x10 && conj [(x9 + x5) % x2 % M256 == 0]) = Bool.false → x3 < x2 ∧ f = Bool.false ∧ g = Bool.false ∧ inP x2 (red x y f) ∧ inP x2 (red z w g) ∧ slopeOK x2 (red x y f) (red z w g) ∧ x11 < x2 ∧ x11 < x2 ∧ x12 < x2 ∧ x8 < x2 ∧ x13 < x2 ∧ x1 < x2 ∧ x8 < x2 ∧ x14 < x2 ∧ x11 < x2 ∧ x15 < x2 ∧ x16 < x2 ∧ x9 < x2 ∧ x14 = x4 ∧ (x16 + x2 - x9) % x2 % M256 = x6 ∧ Bool.false = x7 ∧ True)))) := by kernel_rfl
theorem vc_isOdd (a : Nat) :
    Owes Try.prog Cx.none [] 100 Try.f43 [sU a] (oddG a) =
    (((limb a 0).tmod (2 : Int) == (1 : Int)) = (a % M256 % 2 == 1)) := by kernel_rfl
theorem vc_far  :
    Owes Try.prog Cx.none [] 100 Try.f36 [] farG =
    (0 = 0 ∧ 0 = 0 ∧ Bool.true = Bool.true ∧ True) := by kernel_rfl
theorem wc_told (m x y r1 r2 : Nat) (f r3 : Bool) (n d e : Int) :
    OwesW Try.prog .none [] [] 10 Try.f32 [sHd m, sPt x y f] tErr .i64 n (.tup [sPt r1 r2 r3, sI .i64 d]) e =
    (let x1 : Nat := r1 % M256; let x2 : Nat := r2 % M256; ((n != (0 : Int)) = Bool.true → ((0 = x1 ∧ 0 = x2 ∧ Bool.false = r3 ∧ True) ∧ n = d) ∧ n = e) ∧ ((n != (0 : Int)) = Bool.false → ((x % M256 = x1 ∧ y % M256 = x2 ∧ f = r3 ∧ True) ∧ (0 : Int) = d) ∧ n = e)) := by kernel_rfl
theorem vc_cAdd (P A B N X Y x y z w : Nat) (F f g : Bool) :
    OwesU Try.prog cxCAdd [] [] 100 Try.f12 [sCv P A B N X Y F, sPt x y f, sPt z w g] (cAddG [[.u P, .u A, .u B, .u N, .u X, .u Y, .b F], [.u x, .u y, .b f], [.u z, .u w, .b g]]) =
    (let x1 : Nat := P % M256; let x2 : Nat := A % M256; let x3 : Nat := B % M256; let x4 : Nat := (csum x1 x2 (red x y f) (red z w g)).fst % M256; let x5 : Nat := (csum x1 x2 (red x y f) (red z w g)).snd.fst % M256; let x6 : Bool := (csum x1 x2 (red x y f) (red z w g)).snd.snd; x1 = x1 ∧ goodP x1 x2 x3 (N % M256) (red X Y F) ∧ x2 < x1 ∧ x3 < x1 ∧ onP x1 x2 x3 (red x y f) ∧ x2 < x1 ∧ x3 < x1 ∧ onP x1 x2 x3 (red z w g) ∧ sumOK x1 x2 (red x y f) (red z w g) ∧ (x4 = x4 ∧ x5 = x5 ∧ x6 = x6 ∧ True) ∧ (0 : Int) = (0 : Int)) := by kernel_rfl
theorem vc_cOn (P A B N X Y x y : Nat) (F f : Bool) :
    Owes Try.prog cxCOn [] 100 Try.f14 [sCv P A B N X Y F, sPt x y f] (cOnG [[.u P, .u A, .u B, .u N, .u X, .u Y, .b F], [.u x, .u y, .b f]]) =
    (let x1 : Nat := P % M256; let x2 : Nat := A % M256; let x3 : Nat := B % M256; let x4 : Nat := x % M256; let x5 : Nat := y % M256; let x6 : Int := onE x1 x2 x3 (red x y f); x1 = x1 ∧ goodP x1 x2 x3 (N % M256) (red X Y F) ∧ (f = Bool.true → ((!conj [x4 == 0, x5 == 0, f == Bool.true]) = Bool.true → (16 : Int) = x6) ∧ ((!conj [x4 == 0, x5 == 0, f == Bool.true]) = Bool.false → (0 : Int) = x6)) ∧ (f = Bool.false → x5 < x1 ∧ x5 < x1 ∧ x2 < x1 ∧ x3 < x1 ∧ x4 < x1 ∧ ((!conj [x5 * x5 % x1 % M256 == rhsN x1 x2 x3 x4 % M256]) = Bool.true → (16 : Int) = x6) ∧ ((!conj [x5 * x5 % x1 % M256 == rhsN x1 x2 x3 x4 % M256]) = Bool.false → (0 : Int) = x6))) := by kernel_rfl
theorem vc_cMult (P A B N X Y k x y : Nat) (F f : Bool) :
    OwesU Try.prog cxCMult [] [(7, .inv (invMult P A B N X Y F k x y f))] 100 Try.f16 [sCv P A B N X Y F, sU k, sPt x y f] (cMultG [[.u P, .u A, .u B, .u N, .u X, .u Y, .b F], [.u k], [.u x, .u y, .b f]]) =
    (let x1 : Nat := P % M256; let x2 : Nat := A % M256; let x3 : Nat := B % M256; let x4 : Nat := N % M256; let x5 : Nat := k % M256; let x6 : Nat := X % M256; let x7 : Nat := Y % M256; let x8 : Nat := x % M256; let x9 : Nat := y % M256; x1 = x1 ∧ goodP x1 x2 x3 x4 (red X Y F) ∧ x2 < x1 ∧ x3 < x1 ∧ onP x1 x2 x3 (red x y f) ∧ (∀ (y_1 : Nat), closedB (slotsAt 57 [(3, SV.one (SA.sc (SC.ptr 0 0))), (4, SV.one (SA.sc (SC.ptr 1 0))), (5, SV.one (SA.sc (SC.ptr 2 0))), (6, SV.one (SA.sc (SC.ptr 3 0))), (8, SV.one (SA.sc (SC.ptr 4 0))), (9, SV.one (SA.sc (SC.ptr 5 0))), (10, SV.one (SA.sc (SC.ptr 6 0))), (11, SV.one (sI Go.IntKind.i64 ((255 : Int) - (↑y_1 : Int))))]) [SO.cells (28 : Go.TypeId) [SK.u P, SK.u A, SK.u B, SK.u N, SK.u X, SK.u Y, SK.c (SC.val (Go.Value.bool F))] 0, SO.cells (24 : Go.TypeId) [SK.u k] 0, SO.cells (26 : Go.TypeId) [SK.u x, SK.u y, SK.c (SC.val (Go.Value.bool f))] 0, SO.cells (26 : Go.TypeId) (zeroU ++ zeroU ++ [SK.c (SC.bit Bool.false)]) 0, SO.cells (31 : Go.TypeId) [SK.c (SC.num Go.IntKind.i64 (0 : Int))] 0, SO.cells (65 : Go.TypeId) [SK.u P, SK.c (SC.ptr 4 0)] 0, SO.cells (26 : Go.TypeId) [SK.u (cmulR x1 x2 x5 (red x y f) y_1).fst, SK.u (cmulR x1 x2 x5 (red x y f) y_1).snd.fst, SK.c (SC.val (Go.Value.bool (cmulR x1 x2 x5 (red x y f) y_1).snd.snd))] 0] = Bool.true) ∧ ∃ (y_1 : Nat), y_1 ≤ 256 ∧ (255 : Int) = (255 : Int) - (↑y_1 : Int) ∧ x1 = x1 ∧ x2 = x2 ∧ x3 = x3 ∧ x4 = x4 ∧ x6 = x6 ∧ x7 = x7 ∧ F = F ∧ 0 = 0 ∧ x5 = x5 ∧ 0 = 0 ∧ x8 = x8 ∧ x9 = x9 ∧ f = f ∧ 0 = 0 ∧ 0 = 0 ∧ 0 = 0 ∧ x1 = x1 ∧ 0 = 0 ∧ 0 = (cmulR x1 x2 x5 (red x y f) y_1).fst % M256 ∧ 0 = (cmulR x1 x2 x5 (red x y f) y_1).snd.fst % M256 ∧ Bool.true = (cmulR x1 x2 x5 (red x y f) y_1).snd.snd ∧ 0 = 0 ∧ ∀ (y_2 : Nat), y_2 ≤ 256 → (Decidable.decide ((255 : Int) - (↑y_2 : Int) ≥ (0 : Int)) = Bool.true → Decidable.decide ((255 : Int) - (↑y_2 : Int) ≥ (0 : Int)) = Bool.true) ∧ (Decidable.decide ((255 : Int) - (↑y_2 : Int) ≥ (0 : Int)) = Bool.true → Decidable.decide ((255 : Int) - (↑y_2 : Int) ≥ (0 : Int)) = Bool.true) ∧ ((Decidable.decide ((255 : Int) - (↑y_2 : Int) ≥ (0 : Int)) && (0 : Int) == (0 : Int)) = Bool.true → sumOK x1 x2 (red (cmulR x1 x2 x5 (red x y f) y_2).fst (cmulR x1 x2 x5 (red x y f) y_2).snd.fst (cmulR x1 x2 x5 (red x y f) y_2).snd.snd) (red (cmulR x1 x2 x5 (red x y f) y_2).fst (cmulR x1 x2 x5 (red x y f) y_2).snd.fst (cmulR x1 x2 x5 (red x y f) y_2).snd.snd) ∧ ((0 : Int) ≤ Go.IntKind.i64.wrap (((255 : Int) - (↑y_2 : Int)).tdiv (64 : Int)) ∧ Go.IntKind.i64.wrap (((255 : Int) - (↑y_2 : Int)).tdiv (64 : Int)) < (4 : Int)) ∧ ((0 : Int) ≤ Go.IntKind.i64.wrap (((255 : Int) - (↑y_2 : Int)).tdiv (64 : Int)) ∧ Go.IntKind.i64.wrap (((255 : Int) - (↑y_2 : Int)).tdiv (64 : Int)) < (4 : Int)) ∧ (0 : Int) ≤ ((255 : Int) - (↑y_2 : Int)).tmod (64 : Int) ∧ ((Go.IntKind.u64.wrap (↑(BitVec.ofInt 64 ((limb k (Go.IntKind.i64.wrap (((255 : Int) - (↑y_2 : Int)).tdiv (64 : Int))).toNat).fdiv ((2 : Int) ^ Min.min (((255 : Int) - (↑y_2 : Int)).tmod (64 : Int)).toNat 64)) &&& BitVec.ofInt 64 (1 : Int)).toNat : Int) == (1 : Int)) = Bool.true → sumOK x1 x2 (red (csum x1 x2 (red (cmulR x1 x2 x5 (red x y f) y_2).fst (cmulR x1 x2 x5 (red x y f) y_2).snd.fst (cmulR x1 x2 x5 (red x y f) y_2).snd.snd) (red (cmulR x1 x2 x5 (red x y f) y_2).fst (cmulR x1 x2 x5 (red x y f) y_2).snd.fst (cmulR x1 x2 x5 (red x y f) y_2).snd.snd)).fst (csum x1 x2 (red (cmulR x1 x2 x5 (red x y f) y_2).fst (cmulR x1 x2 x5 (red x y f) y_2).snd.fst (cmulR x1 x2 x5 (red x y f) y_2).snd.snd) (red (cmulR x1 x2 x5 (red x y f) y_2).fst (cmulR x1 x2 x5 (red x y f) y_2).snd.fst (cmulR x1 x2 x5 (red x y f) y_2).snd.snd)).snd.fst (csum x1 x2 (red (cmulR x1 x2 x5 (red x y f) y_2).fst (cmulR x1 x2 x5 (red x y f) y_2).snd.fst (cmulR x1 x2 x5 (red x y f) y_2).snd.snd) (red (cmulR x1 x2 x5 (red x y f) y_2).fst (cmulR x1 x2 x5 (red x y f) y_2).snd.fst (cmulR x1 x2 x5 (red x y f) y_2).snd.snd)).snd.snd) (red x y f) ∧ ∃ (y' : Nat), y' ≤ 256 ∧ Go.IntKind.i64.wrap ((255 : Int) - (↑y_2 : Int) - (1 : Int)) = (255 : Int) - (↑y' : Int) ∧ x1 = x1 ∧ x2 = x2 ∧ x3 = x3 ∧ x4 = x4 ∧ x6 = x6 ∧ x7 = x7 ∧ F = F ∧ 0 = 0 ∧ x5 = x5 ∧ 0 = 0 ∧ x8 = x8 ∧ x9 = x9 ∧ f = f ∧ 0 = 0 ∧ 0 = 0 ∧ 0 = 0 ∧ x1 = x1 ∧ 0 = 0 ∧ (csum x1 x2 (red (csum x1 x2 (red (cmulR x1 x2 x5 (red x y f) y_2).fst (cmulR x1 x2 x5 (red x y f) y_2).snd.fst (cmulR x1 x2 x5 (red x y f) y_2).snd.snd) (red (cmulR x1 x2 x5 (red x y f) y_2).fst (cmulR x1 x2 x5 (red x y f) y_2).snd.fst (cmulR x1 x2 x5 (red x y f) y_2).snd.snd)).fst (csum x1 x2 (red (cmulR x1 x2 x5 (red x y f) y_2).fst (cmulR x1 x2 x5 (red x y f) y_2).snd.fst (cmulR x1 x2 x5 (red x y f) y_2).snd.snd) (red (cmulR x1 x2 x5 (red x y f) y_2).fst (cmulR x1 x2 x5 (red x y f) y_2).snd.fst (cmulR x1 x2 x5 (red x y f) y_2).snd.snd)).snd.fst (csum x1 x2 (red (cmulR x1 x2 x5 (red x y f) y_2).fst (cmulR x1 x2 x5 (red x y f) y_2).snd.fst (cmulR x1 x2 x5 (red x y f) y_2).snd.snd) (red (cmulR x1 x2 x5 (red x y f) y_2).fst (cmulR x1 x2 x5 (red x y f) y_2).snd.fst (cmulR x1 x2 x5 (red x y f) y_2).snd.snd)).snd.snd) (red x y f)).fst % M256 = (cmulR x1 x2 x5 (red x y f) y').fst % M256 ∧ (csum x1 x2 (red (csum x1 x2 (red (cmulR x1 x2 x5 (red x y f) y_2).fst (cmulR x1 x2 x5 (red x y f) y_2).snd.fst (cmulR x1 x2 x5 (red x y f) y_2).snd.snd) (red (cmulR x1 x2 x5 (red x y f) y_2).fst (cmulR x1 x2 x5 (red x y f) y_2).snd.fst (cmulR x1 x2 x5 (red x y f) y_2).snd.snd)).fst (csum x1 x2 (red (cmulR x1 x2 x5 (red x y f) y_2).fst (cmulR x1 x2 x5 (red x y f) y_2).snd.fst (cmulR x1 x2 x5 (red x y f) y_2).snd.snd) (red (cmulR x1 x2 x5 (red x y f) y_2).fst (cmulR x1 x2 x5 (red x y f) y_2).snd.fst (cmulR x1 x2 x5 (red x y f) y_2).snd.snd)).snd.fst (csum x1 x2 (red (cmulR x1 x2 x5 (red x y f) y_2).fst (cmulR x1 x2 x5 (red x y f) y_2).snd.fst (cmulR x1 x2 x5 (red x y f) y_2).snd.snd) (red (cmulR x1 x2 x5 (red x y f) y_2).fst (cmulR x1 x2 x5 (red x y f) y_2).snd.fst (cmulR x1 x2 x5 (red x y f) y_2).snd.snd)).snd.snd) (red x y f)).snd.fst % M256 = (cmulR x1 x2 x5 (red x y f) y').snd.fst % M256 ∧ (csum x1 x2 (red (csum x1 x2 (red (cmulR x1 x2 x5 (red x y f) y_2).fst (cmulR x1 x2 x5 (red x y f) y_2).snd.fst (cmulR x1 x2 x5 (red x y f) y_2).snd.snd) (red (cmulR x1 x2 x5 (red x y f) y_2).fst (cmulR x1 x2 x5 (red x y f) y_2).snd.fst (cmulR x1 x2 x5 (red x y f) y_2).snd.snd)).fst (csum x1 x2 (red (cmulR x1 x2 x5 (red x y f) y_2).fst (cmulR x1 x2 x5 (red x y f) y_2).snd.fst (cmulR x1 x2 x5 (red x y f) y_2).snd.snd) (red (cmulR x1 x2 x5 (red x y f) y_2).fst (cmulR x1 x2 x5 (red x y f) y_2).snd.fst (cmulR x1 x2 x5 (red x y f) y_2).snd.snd)).snd.fst (csum x1 x2 (red (cmulR x1 x2 x5 (red x y f) y_2).fst (cmulR x1 x2 x5 (red x y f) y_2).snd.fst (cmulR x1 x2 x5 (red x y f) y_2).snd.snd) (red (cmulR x1 x2 x5 (red x y f) y_2).fst (cmulR x1 x2 x5 (red x y f) y_2).snd.fst (cmulR x1 x2 x5 (red x y f) y_2).snd.snd)).snd.snd) (red x y f)).snd.snd = (cmulR x1 x2 x5 (red x y f) y').snd.snd ∧ 0 = 0 ∧ ((invMult P A B N X Y F k x y f).less y').succ.le ((invMult P A B N X Y F k x y f).less y_2)) ∧ ((Go.IntKind.u64.wrap (↑(BitVec.ofInt 64 ((limb k (Go.IntKind.i64.wrap (((255 : Int) - (↑y_2 : Int)).tdiv (64 : Int))).toNat).fdiv ((2 : Int) ^ Min.min (((255 : Int) - (↑y_2 : Int)).tmod (64 : Int)).toNat 64)) &&& BitVec.ofInt 64 (1 : Int)).toNat : Int) == (1 : Int)) = Bool.false → ∃ (y' : Nat), y' ≤ 256 ∧ Go.IntKind.i64.wrap ((255 : Int) - (↑y_2 : Int) - (1 : Int)) = (255 : Int) - (↑y' : Int) ∧ x1 = x1 ∧ x2 = x2 ∧ x3 = x3 ∧ x4 = x4 ∧ x6 = x6 ∧ x7 = x7 ∧ F = F ∧ 0 = 0 ∧ x5 = x5 ∧ 0 = 0 ∧ x8 = x8 ∧ x9 = x9 ∧ f = f ∧ 0 = 0 ∧ 0 = 0 ∧ 0 = 0 ∧ x1 = x1 ∧ 0 = 0 ∧ (csum x1 x2 (red (cmulR x1 x2 x5 (red x y f) y_2).fst (cmulR x1 x2 x5 (red x y f) y_2).snd.fst (cmulR x1 x2 x5 (red x y f) y_2).snd.snd) (red (cmulR x1 x2 x5 (red x y f) y_2).fst (cmulR x1 x2 x5 (red x y f) y_2).snd.fst (cmulR x1 x2 x5 (red x y f) y_2).snd.snd)).fst % M256 = (cmulR x1 x2 x5 (red x y f) y').fst % M256 ∧ (csum x1 x2 (red (cmulR x1 x2 x5 (red x y f) y_2).fst (cmulR x1 x2 x5 (red x y f) y_2).snd.fst (cmulR x1 x2 x5 (red x y f) y_2).snd.snd) (red (cmulR x1 x2 x5 (red x y f) y_2).fst (cmulR x1 x2 x5 (red x y f) y_2).snd.fst (cmulR x1 x2 x5 (red x y f) y_2).snd.snd)).snd.fst % M256 = (cmulR x1 x2 x5 (red x y f) y').snd.fst % M256 ∧ (csum x1 x2 (red (cmulR x1 x2 x5 (red x y f) y_2).fst (cmulR x1 x2 x5 (red x y f) y_2).snd.fst (cmulR x1 x2 x5 (red x y f) y_2).snd.snd) (red (cmulR x1 x2 x5 (red x y f) y_2).fst (cmulR x1 x2 x5 (red x y f) y_2).snd.fst (cmulR x1 x2 x5 (red x y f) y_2).snd.snd)).snd.snd = (cmulR x1 x2 x5 (red x y f) y').snd.snd ∧ 0 = 0 ∧ ((invMult P A B N X Y F k x y f).less y').succ.le ((invMult P A B N X Y F k x y f).less y_2))) ∧ ((Decidable.decide ((255 : Int) - (↑y_2 : Int) ≥ (0 : Int)) && (0 : Int) == (0 : Int)) = Bool.false → ((cmulR x1 x2 x5 (red x y f) y_2).fst % M256 = (cmulR x1 x2 x5 (red x y f) 256).fst % M256 ∧ (cmulR x1 x2 x5 (red x y f) y_2).snd.fst % M256 = (cmulR x1 x2 x5 (red x y f) 256).snd.fst % M256 ∧ (cmulR x1 x2 x5 (red x y f) y_2).snd.snd = (cmulR x1 x2 x5 (red x y f) 256).snd.snd ∧ True) ∧ (0 : Int) = (0 : Int))) := by kernel_rfl
end Go.Proofs.Ytohnkglcabfpjaa
end

section
namespace Go.Proofs.Ytohnkglcabfpjaa
open Go.Sx
set_option maxRecDepth 100000
end Go.Proofs.Ytohnkglcabfpjaa
end

section
namespace Go.Proofs.Ytohnkglcabfpjaa
open Go.Sx
set_option maxRecDepth 100000
def wordF (a b : Int) (s : ByteArray) (j : Nat) : Int := if j = 31 then IntKind.u8.wrap b else if j = 30 then IntKind.u8.wrap a else if j < s.size then ((s.data.getD j 0).toNat : Int) else 0
def wordG (_ a b : Int) (s : ByteArray) : SV := .one (sBy 32 (wordF a b s))
theorem vc_From (g : Nat → Int) :
    Owes Try.prog Cx.none [] 400 Try.f77 [sBy 32 g] (fromG g) =
    (let x1 : Int := Go.IntKind.u64.wrap (↑(BitVec.ofInt 64 (Go.IntKind.u64.wrap (↑(BitVec.ofInt 64 (Go.IntKind.u64.wrap (↑(BitVec.ofInt 64 (Go.IntKind.u64.wrap (↑(BitVec.ofInt 64 (Go.IntKind.u64.wrap (↑(BitVec.ofInt 64 (Go.IntKind.u64.wrap (↑(BitVec.ofInt 64 (Go.IntKind.u64.wrap (↑(BitVec.ofInt 64 (Go.IntKind.u64.wrap (↑(BitVec.ofInt 64 (0 : Int) ||| BitVec.ofInt 64 (Go.IntKind.u64.wrap (Go.IntKind.u64.wrap (g 31) * (1 : Int)))).toNat : Int)) ||| BitVec.ofInt 64 (Go.IntKind.u64.wrap (Go.IntKind.u64.wrap (g 30) * (256 : Int)))).toNat : Int)) ||| BitVec.ofInt 64 (Go.IntKind.u64.wrap (Go.IntKind.u64.wrap (g 29) * (65536 : Int)))).toNat : Int)) ||| BitVec.ofInt 64 (Go.IntKind.u64.wrap (Go.IntKind.u64.wrap (g 28) * (16777216 : Int)))).toNat : Int)) ||| BitVec.ofInt 64 (Go.IntKind.u64.wrap (Go.IntKind.u64.wrap (g 27) * (4294967296 : Int)))).toNat : Int)) ||| BitVec.ofInt 64 (Go.IntKind.u64.wrap (Go.IntKind.u64.wrap (g 26) * (1099511627776 : Int)))).toNat : Int)) ||| BitVec.ofInt 64 (Go.IntKind.u64.wrap (Go.IntKind.u64.wrap (g 25) * (281474976710656 : Int)))).toNat : Int)) ||| BitVec.ofInt 64 (Go.IntKind.u64.wrap (Go.IntKind.u64.wrap (g 24) * (72057594037927936 : Int)))).toNat : Int); let x2 : Int := Go.IntKind.u64.wrap (↑(BitVec.ofInt 64 (Go.IntKind.u64.wrap (↑(BitVec.ofInt 64 (Go.IntKind.u64.wrap (↑(BitVec.ofInt 64 (Go.IntKind.u64.wrap (↑(BitVec.ofInt 64 (Go.IntKind.u64.wrap (↑(BitVec.ofInt 64 (Go.IntKind.u64.wrap (↑(BitVec.ofInt 64 (Go.IntKind.u64.wrap (↑(BitVec.ofInt 64 (Go.IntKind.u64.wrap (↑(BitVec.ofInt 64 (0 : Int) ||| BitVec.ofInt 64 (Go.IntKind.u64.wrap (Go.IntKind.u64.wrap (g 23) * (1 : Int)))).toNat : Int)) ||| BitVec.ofInt 64 (Go.IntKind.u64.wrap (Go.IntKind.u64.wrap (g 22) * (256 : Int)))).toNat : Int)) ||| BitVec.ofInt 64 (Go.IntKind.u64.wrap (Go.IntKind.u64.wrap (g 21) * (65536 : Int)))).toNat : Int)) ||| BitVec.ofInt 64 (Go.IntKind.u64.wrap (Go.IntKind.u64.wrap (g 20) * (16777216 : Int)))).toNat : Int)) ||| BitVec.ofInt 64 (Go.IntKind.u64.wrap (Go.IntKind.u64.wrap (g 19) * (4294967296 : Int)))).toNat : Int)) ||| BitVec.ofInt 64 (Go.IntKind.u64.wrap (Go.IntKind.u64.wrap (g 18) * (1099511627776 : Int)))).toNat : Int)) ||| BitVec.ofInt 64 (Go.IntKind.u64.wrap (Go.IntKind.u64.wrap (g 17) * (281474976710656 : Int)))).toNat : Int)) ||| BitVec.ofInt 64 (Go.IntKind.u64.wrap (Go.IntKind.u64.wrap (g 16) * (72057594037927936 : Int)))).toNat : Int); let x3 : Int := Go.IntKind.u64.wrap (↑(BitVec.ofInt 64 (Go.IntKind.u64.wrap (↑(BitVec.ofInt 64 (Go.IntKind.u64.wrap (↑(BitVec.ofInt 64 (Go.IntKind.u64.wrap (↑(BitVec.ofInt 64 (Go.IntKind.u64.wrap (↑(BitVec.ofInt 64 (Go.IntKind.u64.wrap (↑(BitVec.ofInt 64 (Go.IntKind.u64.wrap (↑(BitVec.ofInt 64 (Go.IntKind.u64.wrap (↑(BitVec.ofInt 64 (0 : Int) ||| BitVec.ofInt 64 (Go.IntKind.u64.wrap (Go.IntKind.u64.wrap (g 15) * (1 : Int)))).toNat : Int)) ||| BitVec.ofInt 64 (Go.IntKind.u64.wrap (Go.IntKind.u64.wrap (g 14) * (256 : Int)))).toNat : Int)) ||| BitVec.ofInt 64 (Go.IntKind.u64.wrap (Go.IntKind.u64.wrap (g 13) * (65536 : Int)))).toNat : Int)) ||| BitVec.ofInt 64 (Go.IntKind.u64.wrap (Go.IntKind.u64.wrap (g 12) * (16777216 : Int)))).toNat : Int)) ||| BitVec.ofInt 64 (Go.IntKind.u64.wrap (Go.IntKind.u64.wrap (g 11) * (4294967296 : Int)))).toNat : Int)) ||| BitVec.ofInt 64 (Go.IntKind.u64.wrap (Go.IntKind.u64.wrap (g 10) * (1099511627776 : Int)))).toNat : Int)) ||| BitVec.ofInt 64 (Go.IntKind.u64.wrap (Go.IntKind.u64.wrap (g 9) * (281474976710656 : Int)))).toNat : Int)) ||| BitVec.ofInt 64 (Go.IntKind.u64.wrap (Go.IntKind.u64.wrap (g 8) * (72057594037927936 : Int)))).toNat : Int); let x4 : Int := Go.IntKind.u64.wrap (↑(BitVec.ofInt 64 (Go.IntKind.u64.wrap (↑(BitVec.ofInt 64 (Go.IntKind.u64.wrap (↑(BitVec.ofInt 64 (Go.IntKind.u64.wrap (↑(BitVec.ofInt 64 (Go.IntKind.u64.wrap (↑(BitVec.ofInt 64 (Go.IntKind.u64.wrap (↑(BitVec.ofInt 64 (Go.IntKind.u64.wrap (↑(BitVec.ofInt 64 (Go.IntKind.u64.wrap (↑(BitVec.ofInt 64 (0 : Int) ||| BitVec.ofInt 64 (Go.IntKind.u64.wrap (Go.IntKind.u64.wrap (g 7) * (1 : Int)))).toNat : Int)) ||| BitVec.ofInt 64 (Go.IntKind.u64.wrap (Go.IntKind.u64.wrap (g 6) * (256 : Int)))).toNat : Int)) ||| BitVec.ofInt 64 (Go.IntKind.u64.wrap (Go.IntKind.u64.wrap (g 5) * (65536 : Int)))).toNat : Int)) ||| BitVec.ofInt 64 (Go.IntKind.u64.wrap (Go.IntKind.u64.wrap (g 4) * (16777216 : Int)))).toNat : Int)) ||| BitVec.ofInt 64 (Go.IntKind.u64.wrap (Go.IntKind.u64.wrap (g 3) * (4294967296 : Int)))).toNat : Int)) ||| BitVec.ofInt 64 (Go.IntKind.u64.wrap (Go.IntKind.u64.wrap (g 2) * (1099511627776 : Int)))).toNat : Int)) ||| BitVec.ofInt 64 (Go.IntKind.u64.wrap (Go.IntKind.u64.wrap (g 1) * (281474976710656 : Int)))).toNat : Int)) ||| BitVec.ofInt 64 (Go.IntKind.u64.wrap (Go.IntKind.u64.wrap (g 0) * (72057594037927936 : Int)))).toNat : Int); ((0 : Int) ≤ x1 ∧ x1 < (18446744073709551616 : Int)) ∧ ((0 : Int) ≤ x2 ∧ x2 < (18446744073709551616 : Int)) ∧ ((0 : Int) ≤ x3 ∧ x3 < (18446744073709551616 : Int)) ∧ ((0 : Int) ≤ x4 ∧ x4 < (18446744073709551616 : Int)) ∧ join x1 x2 x3 x4 % M256 = fromN g 32 % M256 ∧ True) := by kernel_rfl
theorem vc_word (k a b : Int) (s : ByteArray) :
    Owes Try.prog Cx.none [] 400 Try.f54 [sRaw k a b s] (wordG k a b s) =
    ((if 0 < s.size then (↑(s.data.getD 0 (0 : UInt8)).toNat : Int) else (0 : Int)) = wordF a b s 0 ∧ (if 1 < s.size then (↑(s.data.getD 1 (0 : UInt8)).toNat : Int) else (0 : Int)) = wordF a b s 1 ∧ (if 2 < s.size then (↑(s.data.getD 2 (0 : UInt8)).toNat : Int) else (0 : Int)) = wordF a b s 2 ∧ (if 3 < s.size then (↑(s.data.getD 3 (0 : UInt8)).toNat : Int) else (0 : Int)) = wordF a b s 3 ∧ (if 4 < s.size then (↑(s.data.getD 4 (0 : UInt8)).toNat : Int) else (0 : Int)) = wordF a b s 4 ∧ (if 5 < s.size then (↑(s.data.getD 5 (0 : UInt8)).toNat : Int) else (0 : Int)) = wordF a b s 5 ∧ (if 6 < s.size then (↑(s.data.getD 6 (0 : UInt8)).toNat : Int) else (0 : Int)) = wordF a b s 6 ∧ (if 7 < s.size then (↑(s.data.getD 7 (0 : UInt8)).toNat : Int) else (0 : Int)) = wordF a b s 7 ∧ (if 8 < s.size then (↑(s.data.getD 8 (0 : UInt8)).toNat : Int) else (0 : Int)) = wordF a b s 8 ∧ (if 9 < s.size then (↑(s.data.getD 9 (0 : UInt8)).toNat : Int) else (0 : Int)) = wordF a b s 9 ∧ (if 10 < s.size then (↑(s.data.getD 10 (0 : UInt8)).toNat : Int) else (0 : Int)) = wordF a b s 10 ∧ (if 11 < s.size then (↑(s.data.getD 11 (0 : UInt8)).toNat : Int) else (0 : Int)) = wordF a b s 11 ∧ (if 12 < s.size then (↑(s.data.getD 12 (0 : UInt8)).toNat : Int) else (0 : Int)) = wordF a b s 12 ∧ (if 13 < s.size then (↑(s.data.getD 13 (0 : UInt8)).toNat : Int) else (0 : Int)) = wordF a b s 13 ∧ (if 14 < s.size then (↑(s.data.getD 14 (0 : UInt8)).toNat : Int) else (0 : Int)) = wordF a b s 14 ∧ (if 15 < s.size then (↑(s.data.getD 15 (0 : UInt8)).toNat : Int) else (0 : Int)) = wordF a b s 15 ∧ (if 16 < s.size then (↑(s.data.getD 16 (0 : UInt8)).toNat : Int) else (0 : Int)) = wordF a b s 16 ∧ (if 17 < s.size then (↑(s.data.getD 17 (0 : UInt8)).toNat : Int) else (0 : Int)) = wordF a b s 17 ∧ (if 18 < s.size then (↑(s.data.getD 18 (0 : UInt8)).toNat : Int) else (0 : Int)) = wordF a b s 18 ∧ (if 19 < s.size then (↑(s.data.getD 19 (0 : UInt8)).toNat : Int) else (0 : Int)) = wordF a b s 19 ∧ (if 20 < s.size then (↑(s.data.getD 20 (0 : UInt8)).toNat : Int) else (0 : Int)) = wordF a b s 20 ∧ (if 21 < s.size then (↑(s.data.getD 21 (0 : UInt8)).toNat : Int) else (0 : Int)) = wordF a b s 21 ∧ (if 22 < s.size then (↑(s.data.getD 22 (0 : UInt8)).toNat : Int) else (0 : Int)) = wordF a b s 22 ∧ (if 23 < s.size then (↑(s.data.getD 23 (0 : UInt8)).toNat : Int) else (0 : Int)) = wordF a b s 23 ∧ (if 24 < s.size then (↑(s.data.getD 24 (0 : UInt8)).toNat : Int) else (0 : Int)) = wordF a b s 24 ∧ (if 25 < s.size then (↑(s.data.getD 25 (0 : UInt8)).toNat : Int) else (0 : Int)) = wordF a b s 25 ∧ (if 26 < s.size then (↑(s.data.getD 26 (0 : UInt8)).toNat : Int) else (0 : Int)) = wordF a b s 26 ∧ (if 27 < s.size then (↑(s.data.getD 27 (0 : UInt8)).toNat : Int) else (0 : Int)) = wordF a b s 27 ∧ (if 28 < s.size then (↑(s.data.getD 28 (0 : UInt8)).toNat : Int) else (0 : Int)) = wordF a b s 28 ∧ (if 29 < s.size then (↑(s.data.getD 29 (0 : UInt8)).toNat : Int) else (0 : Int)) = wordF a b s 29 ∧ Go.IntKind.u8.wrap a = wordF a b s 30 ∧ Go.IntKind.u8.wrap b = wordF a b s 31 ∧ True) := by kernel_rfl
end Go.Proofs.Ytohnkglcabfpjaa
end

section
namespace Go.Proofs.Ytohnkglcabfpjaa
open Go.Sx
theorem split4 (n : Nat) : ∃ a b c d : Nat, limb n 0 = a ∧ limb n 1 = b ∧ limb n 2 = c ∧ limb n 3 = d ∧ a < 18446744073709551616 ∧ b < 18446744073709551616 ∧ c < 18446744073709551616 ∧ d < 18446744073709551616 ∧
    n % M256 = a + 18446744073709551616 * b + 340282366920938463463374607431768211456 * c + 6277101735386680763835789423207666416102355444464034512896 * d := by
  refine ⟨n / 2 ^ (64 * 0) % 2 ^ 64, n / 2 ^ (64 * 1) % 2 ^ 64, n / 2 ^ (64 * 2) % 2 ^ 64, n / 2 ^ (64 * 3) % 2 ^ 64, rfl, rfl, rfl, rfl, Nat.mod_lt _ (by decide), Nat.mod_lt _ (by decide), Nat.mod_lt _ (by decide), Nat.mod_lt _ (by decide), ?_⟩
  rw [limbs_sum]
  simp only [Nat.mul_zero, Nat.pow_zero, Nat.div_one, Nat.mul_one, Nat.reduceMul, Nat.reducePow]
theorem M256_eq : M256 = 115792089237316195423570985008687907853269984665640564039457584007913129639936 := by decide
theorem carry_step (x y c : Nat) (hx : x < 18446744073709551616) (hy : y < 18446744073709551616) (hc : c ≤ 1) :
    ∃ s d : Nat, ((x : Int) + y + c) % 18446744073709551616 = s ∧ ((x : Int) + y + c) / 18446744073709551616 = d ∧ s < 18446744073709551616 ∧ d ≤ 1 ∧ x + y + c = s + 18446744073709551616 * d :=
  ⟨(x + y + c) % 18446744073709551616, (x + y + c) / 18446744073709551616, by omega, by omega, by omega, by omega, by omega⟩
theorem divmod_of {A S c M : Nat} (h : A = S + M * c) (hS : S < M) : A % M = S ∧ A / M = c := by
  subst h
  rw [Nat.add_mul_mod_self_left, Nat.mod_eq_of_lt hS, Nat.add_mul_div_left _ _ (by omega), Nat.div_eq_of_lt hS]
  exact ⟨rfl, by omega⟩
theorem ok_plus : ∀ a b, Owes Try.prog cxPlus [] 100 Try.f83 [sU a, sU b] (plusG a b) := by
  intro a b
  rw [vc_plus]
  have hab := Nat.add_mod a b M256
  obtain ⟨a0, a1, a2, a3, e0, e1, e2, e3, h0, h1, h2, h3, ha⟩ := split4 a
  obtain ⟨b0, b1, b2, b3, f0, f1, f2, f3, k0, k1, k2, k3, hb⟩ := split4 b
  rw [e0, e1, e2, e3, f0, f1, f2, f3]
  rw [ha, hb] at hab
  rw [ha, hb]
  obtain ⟨s0, c0, p0, q0, r0, t0, w0⟩ := carry_step a0 b0 0 h0 k0 (by omega)
  obtain ⟨s1, c1, p1, q1, r1, t1, w1⟩ := carry_step a1 b1 c0 h1 k1 t0
  obtain ⟨s2, c2, p2, q2, r2, t2, w2⟩ := carry_step a2 b2 c1 h2 k2 t1
  obtain ⟨s3, c3, p3, q3, r3, t3, w3⟩ := carry_step a3 b3 c2 h3 k3 t2
  simp only [Int.natCast_zero] at p0 q0
  obtain ⟨m1, m2⟩ := divmod_of (A := a0 + 18446744073709551616 * a1 + 340282366920938463463374607431768211456 * a2 + 6277101735386680763835789423207666416102355444464034512896 * a3 +
    (b0 + 18446744073709551616 * b1 + 340282366920938463463374607431768211456 * b2 + 6277101735386680763835789423207666416102355444464034512896 * b3))
    (S := s0 + 2 ^ 64 * s1 + 2 ^ 128 * s2 + 2 ^ 192 * s3) (c := c3) (M := M256) (by rw [M256_eq]; omega) (by rw [M256_eq]; omega)
  rw [m1] at hab
  have hS : (s0 + 2 ^ 64 * s1 + 2 ^ 128 * s2 + 2 ^ 192 * s3) % M256 = s0 + 2 ^ 64 * s1 + 2 ^ 128 * s2 + 2 ^ 192 * s3 := Nat.mod_eq_of_lt (by rw [M256_eq]; omega)
  simp only [q0, q1, q2, q3, p0, p1, p2, p3, join, Int.toNat_natCast, and_true, hab, hS, m2]
  clear ha hb hab hS m1 m2 p0 p1 p2 p3 q0 q1 q2 q3 w0 w1 w2 w3 e0 e1 e2 e3 f0 f1 f2 f3
  refine ⟨?_, ?_, ?_, ?_, ?_, ?_, ?_, ?_, ?_, ?_, ?_, ?_, ?_, ?_, ?_, ?_⟩ <;> omega
theorem borrow_step (x y c : Nat) (hx : x < 18446744073709551616) (hy : y < 18446744073709551616) (hc : c ≤ 1) :
    ∃ s d : Nat, ((x : Int) - y - c) % 18446744073709551616 = s ∧ -(((x : Int) - y - c) / 18446744073709551616) = d ∧ s < 18446744073709551616 ∧ d ≤ 1 ∧ x + 18446744073709551616 * d = s + y + c :=
  ⟨(((x : Int) - y - c) % 18446744073709551616).toNat, (-(((x : Int) - y - c) / 18446744073709551616)).toNat, by omega, by omega, by omega, by omega, by omega⟩
theorem ok_less : ∀ a b, Owes Try.prog cxLess [] 100 Try.f82 [sU a, sU b] (lessG a b) := by
  intro a b
  rw [vc_less]
  obtain ⟨a0, a1, a2, a3, e0, e1, e2, e3, h0, h1, h2, h3, ha⟩ := split4 a
  obtain ⟨b0, b1, b2, b3, f0, f1, f2, f3, k0, k1, k2, k3, hb⟩ := split4 b
  rw [e0, e1, e2, e3, f0, f1, f2, f3, ha, hb]
  obtain ⟨s0, c0, p0, q0, r0, t0, w0⟩ := borrow_step a0 b0 0 h0 k0 (by omega)
  obtain ⟨s1, c1, p1, q1, r1, t1, w1⟩ := borrow_step a1 b1 c0 h1 k1 t0
  obtain ⟨s2, c2, p2, q2, r2, t2, w2⟩ := borrow_step a2 b2 c1 h2 k2 t1
  obtain ⟨s3, c3, p3, q3, r3, t3, w3⟩ := borrow_step a3 b3 c2 h3 k3 t2
  simp only [Int.natCast_zero] at p0 q0
  have key : a0 + 18446744073709551616 * a1 + 340282366920938463463374607431768211456 * a2 + 6277101735386680763835789423207666416102355444464034512896 * a3 + M256 * c3 =
    (s0 + 2 ^ 64 * s1 + 2 ^ 128 * s2 + 2 ^ 192 * s3) + (b0 + 18446744073709551616 * b1 + 340282366920938463463374607431768211456 * b2 + 6277101735386680763835789423207666416102355444464034512896 * b3) := by
    rw [M256_eq]; omega
  simp only [q0, q1, q2, q3, p0, p1, p2, p3, join, Int.toNat_natCast, and_true]
  generalize hA : a0 + 18446744073709551616 * a1 + 340282366920938463463374607431768211456 * a2 + 6277101735386680763835789423207666416102355444464034512896 * a3 = A at *
  generalize hB : b0 + 18446744073709551616 * b1 + 340282366920938463463374607431768211456 * b2 + 6277101735386680763835789423207666416102355444464034512896 * b3 = B at *
  have hA' : A < M256 := by rw [M256_eq]; omega
  have hB' : B < M256 := by rw [M256_eq]; omega
  have hS' : s0 + 2 ^ 64 * s1 + 2 ^ 128 * s2 + 2 ^ 192 * s3 < M256 := by rw [M256_eq]; omega
  generalize s0 + 2 ^ 64 * s1 + 2 ^ 128 * s2 + 2 ^ 192 * s3 = S at *
  rw [Nat.mod_eq_of_lt hS']
  have hc3 : c3 = 0 ∨ c3 = 1 := by omega
  have fin : S = (A + M256 - B) % M256 ∧ (c3 : Int) = if A < B then 1 else 0 := by
    rcases hc3 with rfl | rfl
    · have : ¬ A < B := by omega
      rw [if_neg this]
      refine ⟨?_, rfl⟩
      rw [show A + M256 - B = S + M256 by omega, Nat.add_mod_right, Nat.mod_eq_of_lt hS']
    · have : A < B := by omega
      rw [if_pos this]
      refine ⟨?_, rfl⟩
      rw [show A + M256 - B = S by omega, Nat.mod_eq_of_lt hS']
  obtain ⟨g1, g2⟩ := fin
  rw [← g1, ← g2]
  clear ha hb hA hB key hA' hB' hS' g1 g2 p0 p1 p2 p3 q0 q1 q2 q3 w0 w1 w2 w3 e0 e1 e2 e3 f0 f1 f2 f3
  repeat' apply And.intro
  all_goals first | rfl | omega
theorem ok_Add : ∀ a b, Owes Try.prog cxAdd [] 100 Try.f63 [sU a, sU b] (addG a b) := by
  intro a b
  rw [vc_Add]
  refine ⟨⟨rfl, trivial⟩, ?_⟩
  have hM : 0 < M256 := by decide
  have h1 := Nat.mod_lt a hM
  have h2 := Nat.mod_lt b hM
  rw [Bool.eq_iff_iff]
  simp only [bne_iff_ne, ne_eq, decide_eq_true_eq]
  by_cases h : M256 ≤ a % M256 + b % M256
  · have : (a % M256 + b % M256) / M256 ≠ 0 := by
      have := Nat.div_pos h hM
      omega
    simp only [h, iff_true]; omega
  · have : (a % M256 + b % M256) / M256 = 0 := Nat.div_eq_of_lt (by omega)
    simp [h, this]
theorem ok_Sub : ∀ a b, Owes Try.prog cxSub [] 100 Try.f62 [sU a, sU b] (subG a b) := by
  intro a b
  rw [vc_Sub]
  refine ⟨⟨rfl, trivial⟩, ?_⟩
  by_cases h : a % M256 < b % M256 <;> simp [h]
theorem ok_Cmp : ∀ a b, Owes Try.prog Cx.none [] 100 Try.f40 [sU a, sU b] (cmpG a b) := by
  intro a b
  rw [vc_Cmp]
  obtain ⟨a0, a1, a2, a3, e0, e1, e2, e3, h0, h1, h2, h3, ha⟩ := split4 a
  obtain ⟨b0, b1, b2, b3, f0, f1, f2, f3, k0, k1, k2, k3, hb⟩ := split4 b
  rw [e0, e1, e2, e3, f0, f1, f2, f3]
  simp only [cmpN, ha, hb, decide_eq_true_eq, decide_eq_false_iff_not]
  clear e0 e1 e2 e3 f0 f1 f2 f3 ha hb
  refine ⟨fun h => ?_, fun h => ⟨fun h' => ?_, fun h' => ⟨fun g => ?_, fun g => ⟨fun g' => ?_, fun g' => ⟨fun i => ?_, fun i => ⟨fun i' => ?_, fun i' => ⟨fun j => ?_, fun j => ⟨fun j' => ?_, fun j' => ?_⟩⟩⟩⟩⟩⟩⟩⟩
  all_goals
    split
    · omega
    · first
      | omega
      | (split <;> omega)
end Go.Proofs.Ytohnkglcabfpjaa
end

section
namespace Go.Proofs.Ytohnkglcabfpjaa
open Go.Sx
end Go.Proofs.Ytohnkglcabfpjaa
end

section
namespace Go.Proofs.Ytohnkglcabfpjaa
open Go.Sx
theorem wrap_id {n : Int} (h : 0 ≤ n ∧ n < 18446744073709551616) : IntKind.u64.wrap n = n := by
  unfold IntKind.wrap
  simp [IntKind.signed, IntKind.bits]
  omega
theorem limbs_int (a : Nat) : ((a % M256 : Nat) : Int) = limb a 0 + 18446744073709551616 * limb a 1 + 340282366920938463463374607431768211456 * limb a 2 + 6277101735386680763835789423207666416102355444464034512896 * limb a 3 := by
  obtain ⟨a0, a1, a2, a3, e0, e1, e2, e3, _, _, _, _, ha⟩ := split4 a
  rw [ha, e0, e1, e2, e3]
  omega
theorem mul_fin (a b : Nat) (c0 c1 c2 c3 c4 c5 c6 c7 : Int) (h0 : 0 ≤ c0 ∧ c0 < 18446744073709551616) (h1 : 0 ≤ c1 ∧ c1 < 18446744073709551616) (h2 : 0 ≤ c2 ∧ c2 < 18446744073709551616) (h3 : 0 ≤ c3 ∧ c3 < 18446744073709551616)
    (h4 : 0 ≤ c4 ∧ c4 < 18446744073709551616) (h5 : 0 ≤ c5 ∧ c5 < 18446744073709551616) (h6 : 0 ≤ c6 ∧ c6 < 18446744073709551616) (h7 : 0 ≤ c7 ∧ c7 < 18446744073709551616)
    (h : ((a % M256 : Nat) : Int) * ((b % M256 : Nat) : Int) = c0 + 18446744073709551616 * c1 + 340282366920938463463374607431768211456 * c2 + 6277101735386680763835789423207666416102355444464034512896 * c3 + 115792089237316195423570985008687907853269984665640564039457584007913129639936 * (c4 + 18446744073709551616 * c5 + 340282366920938463463374607431768211456 * c6 + 6277101735386680763835789423207666416102355444464034512896 * c7)) :
    join c0 c1 c2 c3 % M256 = a * b % M256 ∧ join c4 c5 c6 c7 % M256 = a % M256 * (b % M256) / M256 % M256 := by
  obtain ⟨c0, rfl⟩ := Int.eq_ofNat_of_zero_le h0.1
  obtain ⟨c1, rfl⟩ := Int.eq_ofNat_of_zero_le h1.1
  obtain ⟨c2, rfl⟩ := Int.eq_ofNat_of_zero_le h2.1
  obtain ⟨c3, rfl⟩ := Int.eq_ofNat_of_zero_le h3.1
  obtain ⟨c4, rfl⟩ := Int.eq_ofNat_of_zero_le h4.1
  obtain ⟨c5, rfl⟩ := Int.eq_ofNat_of_zero_le h5.1
  obtain ⟨c6, rfl⟩ := Int.eq_ofNat_of_zero_le h6.1
  obtain ⟨c7, rfl⟩ := Int.eq_ofNat_of_zero_le h7.1
  have hm := Nat.mul_mod a b M256
  rw [← Int.natCast_mul] at h
  generalize a % M256 * (b % M256) = g at h hm
  have e : g = join c0 c1 c2 c3 + M256 * join c4 c5 c6 c7 := by
    unfold join
    rw [M256_eq]
    simp only [Int.toNat_natCast, Nat.reducePow]
    omega
  have hlt : join c0 c1 c2 c3 < M256 := join_lt (by omega) (by omega) (by omega) (by omega)
  obtain ⟨k1, k2⟩ := divmod_of e hlt
  refine ⟨by rw [hm, k1, Nat.mod_eq_of_lt hlt], by rw [k2]⟩
theorem mac (X O P : Int) (hX : 0 ≤ X ∧ X ≤ 340282366920938463426481119284349108225) (hO : 0 ≤ O ∧ O < 18446744073709551616) (hP : 0 ≤ P ∧ P < 18446744073709551616) :
    X + O + P = (P + (X % 18446744073709551616 + O + 0) % 18446744073709551616 + 0) % 18446744073709551616 +
      18446744073709551616 * IntKind.u64.wrap (IntKind.u64.wrap (X / 18446744073709551616 + (X % 18446744073709551616 + O + 0) / 18446744073709551616) + (P + (X % 18446744073709551616 + O + 0) % 18446744073709551616 + 0) / 18446744073709551616) ∧
    (0 ≤ (P + (X % 18446744073709551616 + O + 0) % 18446744073709551616 + 0) % 18446744073709551616 ∧ (P + (X % 18446744073709551616 + O + 0) % 18446744073709551616 + 0) % 18446744073709551616 < 18446744073709551616) ∧
    (0 ≤ IntKind.u64.wrap (IntKind.u64.wrap (X / 18446744073709551616 + (X % 18446744073709551616 + O + 0) / 18446744073709551616) + (P + (X % 18446744073709551616 + O + 0) % 18446744073709551616 + 0) / 18446744073709551616) ∧
     IntKind.u64.wrap (IntKind.u64.wrap (X / 18446744073709551616 + (X % 18446744073709551616 + O + 0) / 18446744073709551616) + (P + (X % 18446744073709551616 + O + 0) % 18446744073709551616 + 0) / 18446744073709551616) < 18446744073709551616) := by
  have h1 : IntKind.u64.wrap (X / 18446744073709551616 + (X % 18446744073709551616 + O + 0) / 18446744073709551616) = X / 18446744073709551616 + (X % 18446744073709551616 + O + 0) / 18446744073709551616 := wrap_id (by omega)
  rw [h1, wrap_id (by omega)]
  omega
theorem limb_mul (a b : Nat) (i j : Nat) : 0 ≤ limb a i * limb b j ∧ limb a i * limb b j ≤ 340282366920938463426481119284349108225 := by
  have h1 := limb_nonneg a i
  have h2 := limb_nonneg b j
  have h3 := limb_lt a i
  have h4 := limb_lt b j
  refine ⟨Int.mul_nonneg h1 h2, ?_⟩
  have : limb a i * limb b j ≤ 18446744073709551615 * 18446744073709551615 := Int.mul_le_mul (by omega) (by omega) h2 (by decide)
  omega
theorem mul_weigh (a b c0 c1 c2 c3 c4 c5 c6 c7 : Int) (a0 a1 a2 a3 b0 b1 b2 b3 : Int) (ha : a = a0 + 18446744073709551616 * a1 + 340282366920938463463374607431768211456 * a2 + 6277101735386680763835789423207666416102355444464034512896 * a3)
    (hb : b = b0 + 18446744073709551616 * b1 + 340282366920938463463374607431768211456 * b2 + 6277101735386680763835789423207666416102355444464034512896 * b3)
    (h : a0 * b0 + 18446744073709551616 * (a0 * b1 + a1 * b0) + 340282366920938463463374607431768211456 * (a0 * b2 + a1 * b1 + a2 * b0) + 6277101735386680763835789423207666416102355444464034512896 * (a0 * b3 + a1 * b2 + a2 * b1 + a3 * b0) +
      115792089237316195423570985008687907853269984665640564039457584007913129639936 * (a1 * b3 + a2 * b2 + a3 * b1) + 2135987035920910082395021706169552114602704522356652769947041607822219725780640550022962086936576 * (a2 * b3 + a3 * b2) + 39402006196394479212279040100143613805079739270465446667948293404245721771497210611414266254884915640806627990306816 * (a3 * b3) =
      c0 + 18446744073709551616 * c1 + 340282366920938463463374607431768211456 * c2 + 6277101735386680763835789423207666416102355444464034512896 * c3 + 115792089237316195423570985008687907853269984665640564039457584007913129639936 * c4 + 2135987035920910082395021706169552114602704522356652769947041607822219725780640550022962086936576 * c5 + 39402006196394479212279040100143613805079739270465446667948293404245721771497210611414266254884915640806627990306816 * c6 + 726838724295606890549323807888004534353641360687318060281490199180639288113397923326191050713763565560762521606266177933534601628614656 * c7) :
    a * b = c0 + 18446744073709551616 * c1 + 340282366920938463463374607431768211456 * c2 + 6277101735386680763835789423207666416102355444464034512896 * c3 + 115792089237316195423570985008687907853269984665640564039457584007913129639936 * (c4 + 18446744073709551616 * c5 + 340282366920938463463374607431768211456 * c6 + 6277101735386680763835789423207666416102355444464034512896 * c7) := by
  subst ha hb
  simp only [Int.add_mul, Int.mul_add, Int.mul_assoc] at h ⊢
  have e : ∀ (x y : Int) (k : Int), x * (k * y) = k * (x * y) := fun x y k => Int.mul_left_comm x k y
  simp only [e a0, e a1, e a2, e a3] at h ⊢
  omega
set_option maxRecDepth 100000 in
theorem ok_Mul : ∀ a b, Owes Try.prog cxMul2 [] 100 Try.f70 [sU a, sU b] (mulG a b) := by
  intro a b
  rw [vc_Mul]
  have hm := limb_mul a b
  have h01 : (0 : Int) ≤ 1 := by decide
  have hz : (0 : Int) ≤ 0 ∧ (0 : Int) < 18446744073709551616 := by decide
  have hl : ∀ n i, (0 : Int) ≤ limb n i ∧ limb n i < 18446744073709551616 := fun n i => ⟨limb_nonneg n i, limb_lt n i⟩
  intro x1 x2 x3 x4 x5 x6 x7 x8 x9 x10 x11 x12 x13 x14 x15 x16 x17 x18 x19 x20 x21 x22 x23 x24 x25 x26 x27 x28 x29 x30 x31 x32 x33 x34 x35 x36 x37 x38 x39 x40 x41 x42 x43 x44 x45 x46 x47 x48 x49 x50 x51 x52 x53 x54 x55 x56 x57 x58 x59 x60 x61 x62 x63 x64 x65 x66 x67 x68 x69 x70 x71 x72 x73 x74 x75 x76 x77 x78 x79 x80 x81 x82 x83 x84 x85 x86 x87 x88 x89 x90 x91 x92 x93 x94 x95 x96 x97 x98 x99 x100 x101 x102 x103 x104 x105 x106 x107 x108 x109 x110 x111 x112
  obtain ⟨f0_0, p0_0, r0_0⟩ : x1 + 0 + 0 = x104 + 18446744073709551616 * x8 ∧ (0 ≤ x104 ∧ x104 < 18446744073709551616) ∧ (0 ≤ x8 ∧ x8 < 18446744073709551616) := mac x1 0 0 (hm 0 0) hz hz
  obtain ⟨f0_1, p0_1, r0_1⟩ : x5 + x8 + 0 = x25 + 18446744073709551616 * x14 ∧ (0 ≤ x25 ∧ x25 < 18446744073709551616) ∧ (0 ≤ x14 ∧ x14 < 18446744073709551616) := mac x5 x8 0 (hm 0 1) r0_0 hz
  obtain ⟨f0_2, p0_2, r0_2⟩ : x11 + x14 + 0 = x32 + 18446744073709551616 * x20 ∧ (0 ≤ x32 ∧ x32 < 18446744073709551616) ∧ (0 ≤ x20 ∧ x20 < 18446744073709551616) := mac x11 x14 0 (hm 0 2) r0_1 hz
  obtain ⟨f0_3, p0_3, r0_3⟩ : x17 + x20 + 0 = x40 + 18446744073709551616 * x47 ∧ (0 ≤ x40 ∧ x40 < 18446744073709551616) ∧ (0 ≤ x47 ∧ x47 < 18446744073709551616) := mac x17 x20 0 (hm 0 3) r0_2 hz
  obtain ⟨f1_0, p1_0, r1_0⟩ : x23 + 0 + x25 = x105 + 18446744073709551616 * x31 ∧ (0 ≤ x105 ∧ x105 < 18446744073709551616) ∧ (0 ≤ x31 ∧ x31 < 18446744073709551616) := mac x23 0 x25 (hm 1 0) hz p0_1
  obtain ⟨f1_1, p1_1, r1_1⟩ : x28 + x31 + x32 = x52 + 18446744073709551616 * x38 ∧ (0 ≤ x52 ∧ x52 < 18446744073709551616) ∧ (0 ≤ x38 ∧ x38 < 18446744073709551616) := mac x28 x31 x32 (hm 1 1) r1_0 p0_2
  obtain ⟨f1_2, p1_2, r1_2⟩ : x35 + x38 + x40 = x59 + 18446744073709551616 * x46 ∧ (0 ≤ x59 ∧ x59 < 18446744073709551616) ∧ (0 ≤ x46 ∧ x46 < 18446744073709551616) := mac x35 x38 x40 (hm 1 2) r1_1 p0_3
  obtain ⟨f1_3, p1_3, r1_3⟩ : x43 + x46 + x47 = x67 + 18446744073709551616 * x74 ∧ (0 ≤ x67 ∧ x67 < 18446744073709551616) ∧ (0 ≤ x74 ∧ x74 < 18446744073709551616) := mac x43 x46 x47 (hm 1 3) r1_2 r0_3
  obtain ⟨f2_0, p2_0, r2_0⟩ : x50 + 0 + x52 = x106 + 18446744073709551616 * x58 ∧ (0 ≤ x106 ∧ x106 < 18446744073709551616) ∧ (0 ≤ x58 ∧ x58 < 18446744073709551616) := mac x50 0 x52 (hm 2 0) hz p1_1
  obtain ⟨f2_1, p2_1, r2_1⟩ : x55 + x58 + x59 = x79 + 18446744073709551616 * x65 ∧ (0 ≤ x79 ∧ x79 < 18446744073709551616) ∧ (0 ≤ x65 ∧ x65 < 18446744073709551616) := mac x55 x58 x59 (hm 2 1) r2_0 p1_2
  obtain ⟨f2_2, p2_2, r2_2⟩ : x62 + x65 + x67 = x86 + 18446744073709551616 * x73 ∧ (0 ≤ x86 ∧ x86 < 18446744073709551616) ∧ (0 ≤ x73 ∧ x73 < 18446744073709551616) := mac x62 x65 x67 (hm 2 2) r2_1 p1_3
  obtain ⟨f2_3, p2_3, r2_3⟩ : x70 + x73 + x74 = x94 + 18446744073709551616 * x101 ∧ (0 ≤ x94 ∧ x94 < 18446744073709551616) ∧ (0 ≤ x101 ∧ x101 < 18446744073709551616) := mac x70 x73 x74 (hm 2 3) r2_2 r1_3
  obtain ⟨f3_0, p3_0, r3_0⟩ : x77 + 0 + x79 = x107 + 18446744073709551616 * x85 ∧ (0 ≤ x107 ∧ x107 < 18446744073709551616) ∧ (0 ≤ x85 ∧ x85 < 18446744073709551616) := mac x77 0 x79 (hm 3 0) hz p2_1
  obtain ⟨f3_1, p3_1, r3_1⟩ : x82 + x85 + x86 = x108 + 18446744073709551616 * x92 ∧ (0 ≤ x108 ∧ x108 < 18446744073709551616) ∧ (0 ≤ x92 ∧ x92 < 18446744073709551616) := mac x82 x85 x86 (hm 3 1) r3_0 p2_2
  obtain ⟨f3_2, p3_2, r3_2⟩ : x89 + x92 + x94 = x109 + 18446744073709551616 * x100 ∧ (0 ≤ x109 ∧ x109 < 18446744073709551616) ∧ (0 ≤ x100 ∧ x100 < 18446744073709551616) := mac x89 x92 x94 (hm 3 2) r3_1 p2_3
  obtain ⟨f3_3, p3_3, r3_3⟩ : x97 + x100 + x101 = x111 + 18446744073709551616 * x112 ∧ (0 ≤ x111 ∧ x111 < 18446744073709551616) ∧ (0 ≤ x112 ∧ x112 < 18446744073709551616) := mac x97 x100 x101 (hm 3 3) r3_2 r2_3
  have n_x2 : 0 ≤ x2 := Int.emod_nonneg _ (by decide)
  have n_x4 : 0 ≤ x4 := Int.emod_nonneg _ (by decide)
  have n_x6 : 0 ≤ x6 := Int.emod_nonneg _ (by decide)
  have n_x10 : 0 ≤ x10 := Int.emod_nonneg _ (by decide)
  have n_x12 : 0 ≤ x12 := Int.emod_nonneg _ (by decide)
  have n_x16 : 0 ≤ x16 := Int.emod_nonneg _ (by decide)
  have n_x18 : 0 ≤ x18 := Int.emod_nonneg _ (by decide)
  have n_x22 : 0 ≤ x22 := Int.emod_nonneg _ (by decide)
  have n_x24 : 0 ≤ x24 := Int.emod_nonneg _ (by decide)
  have n_x25 : 0 ≤ x25 := Int.emod_nonneg _ (by decide)
  have n_x27 : 0 ≤ x27 := Int.emod_nonneg _ (by decide)
  have n_x29 : 0 ≤ x29 := Int.emod_nonneg _ (by decide)
  have n_x32 : 0 ≤ x32 := Int.emod_nonneg _ (by decide)
  have n_x34 : 0 ≤ x34 := Int.emod_nonneg _ (by decide)
  have n_x36 : 0 ≤ x36 := Int.emod_nonneg _ (by decide)
  have n_x40 : 0 ≤ x40 := Int.emod_nonneg _ (by decide)
  have n_x42 : 0 ≤ x42 := Int.emod_nonneg _ (by decide)
  have n_x44 : 0 ≤ x44 := Int.emod_nonneg _ (by decide)
  have n_x49 : 0 ≤ x49 := Int.emod_nonneg _ (by decide)
  have n_x51 : 0 ≤ x51 := Int.emod_nonneg _ (by decide)
  have n_x52 : 0 ≤ x52 := Int.emod_nonneg _ (by decide)
  have n_x54 : 0 ≤ x54 := Int.emod_nonneg _ (by decide)
  have n_x56 : 0 ≤ x56 := Int.emod_nonneg _ (by decide)
  have n_x59 : 0 ≤ x59 := Int.emod_nonneg _ (by decide)
  have n_x61 : 0 ≤ x61 := Int.emod_nonneg _ (by decide)
  have n_x63 : 0 ≤ x63 := Int.emod_nonneg _ (by decide)
  have n_x67 : 0 ≤ x67 := Int.emod_nonneg _ (by decide)
  have n_x69 : 0 ≤ x69 := Int.emod_nonneg _ (by decide)
  have n_x71 : 0 ≤ x71 := Int.emod_nonneg _ (by decide)
  have n_x76 : 0 ≤ x76 := Int.emod_nonneg _ (by decide)
  have n_x78 : 0 ≤ x78 := Int.emod_nonneg _ (by decide)
  have n_x79 : 0 ≤ x79 := Int.emod_nonneg _ (by decide)
  have n_x81 : 0 ≤ x81 := Int.emod_nonneg _ (by decide)
  have n_x83 : 0 ≤ x83 := Int.emod_nonneg _ (by decide)
  have n_x86 : 0 ≤ x86 := Int.emod_nonneg _ (by decide)
  have n_x88 : 0 ≤ x88 := Int.emod_nonneg _ (by decide)
  have n_x90 : 0 ≤ x90 := Int.emod_nonneg _ (by decide)
  have n_x94 : 0 ≤ x94 := Int.emod_nonneg _ (by decide)
  have n_x96 : 0 ≤ x96 := Int.emod_nonneg _ (by decide)
  have n_x98 : 0 ≤ x98 := Int.emod_nonneg _ (by decide)
  have n_x103 : 0 ≤ x103 := Int.emod_nonneg _ (by decide)
  have n_x104 : 0 ≤ x104 := Int.emod_nonneg _ (by decide)
  have n_x105 : 0 ≤ x105 := Int.emod_nonneg _ (by decide)
  have n_x106 : 0 ≤ x106 := Int.emod_nonneg _ (by decide)
  have n_x107 : 0 ≤ x107 := Int.emod_nonneg _ (by decide)
  have n_x108 : 0 ≤ x108 := Int.emod_nonneg _ (by decide)
  have n_x109 : 0 ≤ x109 := Int.emod_nonneg _ (by decide)
  have n_x111 : 0 ≤ x111 := Int.emod_nonneg _ (by decide)
  have g0_0 : limb a 0 * limb b 0 = x1 := rfl
  have g0_1 : limb a 0 * limb b 1 = x5 := rfl
  have g0_2 : limb a 0 * limb b 2 = x11 := rfl
  have g0_3 : limb a 0 * limb b 3 = x17 := rfl
  have g1_0 : limb a 1 * limb b 0 = x23 := rfl
  have g1_1 : limb a 1 * limb b 1 = x28 := rfl
  have g1_2 : limb a 1 * limb b 2 = x35 := rfl
  have g1_3 : limb a 1 * limb b 3 = x43 := rfl
  have g2_0 : limb a 2 * limb b 0 = x50 := rfl
  have g2_1 : limb a 2 * limb b 1 = x55 := rfl
  have g2_2 : limb a 2 * limb b 2 = x62 := rfl
  have g2_3 : limb a 2 * limb b 3 = x70 := rfl
  have g3_0 : limb a 3 * limb b 0 = x77 := rfl
  have g3_1 : limb a 3 * limb b 1 = x82 := rfl
  have g3_2 : limb a 3 * limb b 2 = x89 := rfl
  have g3_3 : limb a 3 * limb b 3 = x97 := rfl
  clear_value x112 x111 x110 x109 x108 x107 x106 x105 x104 x103 x102 x101 x100 x99 x98 x97 x96 x95 x94 x93 x92 x91 x90 x89 x88 x87 x86 x85 x84 x83 x82 x81 x80 x79 x78 x77 x76 x75 x74 x73 x72 x71 x70 x69 x68 x67 x66 x65 x64 x63 x62 x61 x60 x59 x58 x57 x56 x55 x54 x53 x52 x51 x50 x49 x48 x47 x46 x45 x44 x43 x42 x41 x40 x39 x38 x37 x36 x35 x34 x33 x32 x31 x30 x29 x28 x27 x26 x25 x24 x23 x22 x21 x20 x19 x18 x17 x16 x15 x14 x13 x12 x11 x10 x9 x8 x7 x6 x5 x4 x3 x2 x1
  have hw := mul_weigh ((a % M256 : Nat) : Int) ((b % M256 : Nat) : Int) x104 x105 x106 x107 x108 x109 x111 x112 (limb a 0) (limb a 1) (limb a 2) (limb a 3) (limb b 0) (limb b 1) (limb b 2) (limb b 3) (limbs_int a) (limbs_int b)
    (by rw [g0_0, g0_1, g0_2, g0_3, g1_0, g1_1, g1_2, g1_3, g2_0, g2_1, g2_2, g2_3, g3_0, g3_1, g3_2, g3_3]; clear hm hl n_x2 n_x4 n_x6 n_x10 n_x12 n_x16 n_x18 n_x22 n_x24 n_x25 n_x27 n_x29 n_x32 n_x34 n_x36 n_x40 n_x42 n_x44 n_x49 n_x51 n_x52 n_x54 n_x56 n_x59 n_x61 n_x63 n_x67 n_x69 n_x71 n_x76 n_x78 n_x79 n_x81 n_x83 n_x86 n_x88 n_x90 n_x94 n_x96 n_x98 n_x103 n_x104 n_x105 n_x106 n_x107 n_x108 n_x109 n_x111; omega)
  obtain ⟨q1, q2⟩ := mul_fin a b x104 x105 x106 x107 x108 x109 x111 x112 p0_0 p1_0 p2_0 p3_0 p3_1 p3_2 p3_3 r3_3 hw
  have o_x8 := r0_0.1
  have o_x14 := r0_1.1
  have o_x20 := r0_2.1
  have o_x47 := r0_3.1
  have o_x31 := r1_0.1
  have o_x38 := r1_1.1
  have o_x46 := r1_2.1
  have o_x74 := r1_3.1
  have o_x58 := r2_0.1
  have o_x65 := r2_1.1
  have o_x73 := r2_2.1
  have o_x101 := r2_3.1
  have o_x85 := r3_0.1
  have o_x92 := r3_1.1
  have o_x100 := r3_2.1
  have o_x112 := r3_3.1
  exact ⟨⟨(limb_nonneg _ _), (limb_lt _ _)⟩, ⟨(limb_nonneg _ _), (limb_lt _ _)⟩, n_x2, hz.1, ⟨hz.1, h01⟩, hz.1, n_x4, ⟨hz.1, h01⟩, ⟨(limb_nonneg _ _), (limb_lt _ _)⟩, ⟨(limb_nonneg _ _), (limb_lt _ _)⟩, n_x6, r0_0.1, ⟨hz.1, h01⟩, hz.1, n_x10, ⟨hz.1, h01⟩, ⟨(limb_nonneg _ _), (limb_lt _ _)⟩, ⟨(limb_nonneg _ _), (limb_lt _ _)⟩, n_x12, r0_1.1, ⟨hz.1, h01⟩, hz.1, n_x16, ⟨hz.1, h01⟩, ⟨(limb_nonneg _ _), (limb_lt _ _)⟩, ⟨(limb_nonneg _ _), (limb_lt _ _)⟩, n_x18, r0_2.1, ⟨hz.1, h01⟩, hz.1, n_x22, ⟨hz.1, h01⟩, ⟨(limb_nonneg _ _), (limb_lt _ _)⟩, ⟨(limb_nonneg _ _), (limb_lt _ _)⟩, n_x24, hz.1, ⟨hz.1, h01⟩, p0_1.1, n_x27, ⟨hz.1, h01⟩, ⟨(limb_nonneg _ _), (limb_lt _ _)⟩, ⟨(limb_nonneg _ _), (limb_lt _ _)⟩, n_x29, r1_0.1, ⟨hz.1, h01⟩, p0_2.1, n_x34, ⟨hz.1, h01⟩, ⟨(limb_nonneg _ _), (limb_lt _ _)⟩, ⟨(limb_nonneg _ _), (limb_lt _ _)⟩, n_x36, r1_1.1, ⟨hz.1, h01⟩, p0_3.1, n_x42, ⟨hz.1, h01⟩, ⟨(limb_nonneg _ _), (limb_lt _ _)⟩, ⟨(limb_nonneg _ _), (limb_lt _ _)⟩, n_x44, r1_2.1, ⟨hz.1, h01⟩, r0_3.1, n_x49, ⟨hz.1, h01⟩, ⟨(limb_nonneg _ _), (limb_lt _ _)⟩, ⟨(limb_nonneg _ _), (limb_lt _ _)⟩, n_x51, hz.1, ⟨hz.1, h01⟩, p1_1.1, n_x54, ⟨hz.1, h01⟩, ⟨(limb_nonneg _ _), (limb_lt _ _)⟩, ⟨(limb_nonneg _ _), (limb_lt _ _)⟩, n_x56, r2_0.1, ⟨hz.1, h01⟩, p1_2.1, n_x61, ⟨hz.1, h01⟩, ⟨(limb_nonneg _ _), (limb_lt _ _)⟩, ⟨(limb_nonneg _ _), (limb_lt _ _)⟩, n_x63, r2_1.1, ⟨hz.1, h01⟩, p1_3.1, n_x69, ⟨hz.1, h01⟩, ⟨(limb_nonneg _ _), (limb_lt _ _)⟩, ⟨(limb_nonneg _ _), (limb_lt _ _)⟩, n_x71, r2_2.1, ⟨hz.1, h01⟩, r1_3.1, n_x76, ⟨hz.1, h01⟩, ⟨(limb_nonneg _ _), (limb_lt _ _)⟩, ⟨(limb_nonneg _ _), (limb_lt _ _)⟩, n_x78, hz.1, ⟨hz.1, h01⟩, p2_1.1, n_x81, ⟨hz.1, h01⟩, ⟨(limb_nonneg _ _), (limb_lt _ _)⟩, ⟨(limb_nonneg _ _), (limb_lt _ _)⟩, n_x83, r3_0.1, ⟨hz.1, h01⟩, p2_2.1, n_x88, ⟨hz.1, h01⟩, ⟨(limb_nonneg _ _), (limb_lt _ _)⟩, ⟨(limb_nonneg _ _), (limb_lt _ _)⟩, n_x90, r3_1.1, ⟨hz.1, h01⟩, p2_3.1, n_x96, ⟨hz.1, h01⟩, ⟨(limb_nonneg _ _), (limb_lt _ _)⟩, ⟨(limb_nonneg _ _), (limb_lt _ _)⟩, n_x98, r3_2.1, ⟨hz.1, h01⟩, r2_3.1, n_x103, ⟨hz.1, h01⟩, ⟨⟨p0_0.1, p0_0.2⟩, ⟨p1_0.1, p1_0.2⟩, ⟨p2_0.1, p2_0.2⟩, ⟨p3_0.1, p3_0.2⟩, q1, trivial⟩, ⟨p3_1.1, p3_1.2⟩, ⟨p3_2.1, p3_2.2⟩, ⟨p3_3.1, p3_3.2⟩, ⟨r3_3.1, r3_3.2⟩, q2, trivial⟩
end Go.Proofs.Ytohnkglcabfpjaa
end

section
namespace Go.Proofs.Ytohnkglcabfpjaa
open Go.Sx
theorem times_step (l n c : Nat) (hl : l < 18446744073709551616) (hn : n < 18446744073709551616) (hc : c < 18446744073709551616) :
    ∃ s d : Nat, ((l : Int) * n % 18446744073709551616 + c + 0) % 18446744073709551616 = s ∧ IntKind.u64.wrap ((l : Int) * n / 18446744073709551616 + ((l : Int) * n % 18446744073709551616 + c + 0) / 18446744073709551616) = d ∧
      s < 18446744073709551616 ∧ d < 18446744073709551616 ∧ l * n + c = s + 18446744073709551616 * d := by
  have hm : l * n ≤ 18446744073709551615 * 18446744073709551615 := Nat.mul_le_mul (by omega) (by omega)
  have e : (l : Int) * n = ((l * n : Nat) : Int) := (Int.natCast_mul l n).symm
  rw [e]
  generalize l * n = g at *
  refine ⟨(g + c) % 18446744073709551616, (g + c) / 18446744073709551616, by omega, ?_, by omega, by omega, by omega⟩
  rw [wrap_id (by omega)]
  omega
theorem ok_times : ∀ a n, 0 ≤ n ∧ n < 18446744073709551616 → Owes Try.prog cxTimes2 [] 100 Try.f86 [sU a, sI .u64 n] (timesG a n) := by
  intro a n hn
  rw [vc_times]
  obtain ⟨q, rfl⟩ := Int.eq_ofNat_of_zero_le hn.1
  have hq : q < 18446744073709551616 := by omega
  intro x1 x2 x3 x4 x5 x6 x7 x8 x9 x10 x11 x12 x13 x14 x15 x16 x17 x18 x19
  obtain ⟨a0, a1, a2, a3, e0, e1, e2, e3, h0, h1, h2, h3, ha⟩ := split4 a
  obtain ⟨s0, d0, p0, q0, r0, t0, w0⟩ := times_step a0 q 0 h0 hq (by omega)
  obtain ⟨s1, d1, p1, q1, r1, t1, w1⟩ := times_step a1 q d0 h1 hq t0
  obtain ⟨s2, d2, p2, q2, r2, t2, w2⟩ := times_step a2 q d1 h2 hq t1
  obtain ⟨s3, d3, p3, q3, r3, t3, w3⟩ := times_step a3 q d2 h3 hq t2
  have m15 : x15 = s0 := by simp only [x15, x5, x2, x1, e0]; exact p0
  have m6 : x6 = d0 := by simp only [x6, x5, x2, x1, e0]; exact q0
  have m17 : x16 = s1 := by simp only [x16, x9, x4, x3, m6, e1]; exact p1
  have m10 : x10 = d1 := by simp only [x10, x9, x4, x3, m6, e1]; exact q1
  have m18 : x17 = s2 := by simp only [x17, x13, x8, x7, m10, e2]; exact p2
  have m14 : x14 = d2 := by simp only [x14, x13, x8, x7, m10, e2]; exact q2
  have m20 : x19 = s3 := by simp only [x19, x18, x12, x11, m14, e3]; exact p3
  have m21 : IntKind.u64.wrap (x11 / 18446744073709551616 + x18 / 18446744073709551616) = d3 := by simp only [x18, x12, x11, m14, e3]; exact q3
  have n2 : 0 ≤ x2 := Int.emod_nonneg _ (by decide)
  have n4 : 0 ≤ x4 := Int.emod_nonneg _ (by decide)
  have n8 : 0 ≤ x8 := Int.emod_nonneg _ (by decide)
  have n12 : 0 ≤ x12 := Int.emod_nonneg _ (by decide)
  clear_value x19 x18 x17 x16 x15 x14 x13 x12 x11 x10 x9 x8 x7 x6 x5 x4 x3 x2 x1
  have key : a % M256 * q = s0 + 18446744073709551616 * s1 + 340282366920938463463374607431768211456 * s2 + 6277101735386680763835789423207666416102355444464034512896 * s3 + M256 * d3 := by
    have e : a % M256 * q = a0 * q + 18446744073709551616 * (a1 * q) + 340282366920938463463374607431768211456 * (a2 * q) + 6277101735386680763835789423207666416102355444464034512896 * (a3 * q) := by
      rw [ha, Nat.add_mul, Nat.add_mul, Nat.add_mul, Nat.mul_assoc, Nat.mul_assoc, Nat.mul_assoc]
    rw [e, M256_eq]
    generalize a0 * q = g0 at *
    generalize a1 * q = g1 at *
    generalize a2 * q = g2 at *
    generalize a3 * q = g3 at *
    omega
  have hlt : s0 + 18446744073709551616 * s1 + 340282366920938463463374607431768211456 * s2 + 6277101735386680763835789423207666416102355444464034512896 * s3 < M256 := by
    rw [M256_eq]; omega
  have hmod : a * q % M256 = (a % M256 * q) % M256 := by rw [Nat.mod_mul_mod]
  rw [m21, m15, m17, m18, m20, m6, m10, m14, e0, e1, e2, e3]
  simp only [Int.toNat_natCast]
  refine ⟨by omega, by omega, n2, by omega, by omega, by omega, by omega, n4, by omega, by omega, by omega, by omega, n8, by omega, by omega, by omega, by omega, n12, by omega, by omega, ⟨by omega, by omega, by omega, by omega, ?_, trivial⟩, ?_⟩
  · rw [hmod, key, Nat.add_mul_mod_self_left]
    rfl
  · rw [key, Nat.add_mul_div_left _ _ (by rw [M256_eq]; decide), Nat.div_eq_of_lt hlt, Nat.zero_add]
end Go.Proofs.Ytohnkglcabfpjaa
end

section
namespace Go.Proofs.Ytohnkglcabfpjaa
open Go.Sx
theorem and_low (p : Nat) (hp : p < 18446744073709551616) : (BitVec.ofInt 64 (p : Int) &&& BitVec.ofInt 64 (4294967295 : Int)).toNat = p % 4294967296 := by
  have h1 : (BitVec.ofInt 64 (p : Int)).toNat = p := by
    rw [BitVec.toNat_ofInt]
    omega
  have h2 : (BitVec.ofInt 64 (4294967295 : Int)).toNat = 2 ^ 32 - 1 := by decide
  rw [BitVec.toNat_and, h1, h2, Nat.and_two_pow_sub_one_eq_mod]
theorem fdiv_low (p : Nat) : (p : Int).fdiv 4294967296 = ((p / 4294967296 : Nat) : Int) := by
  rw [Int.fdiv_eq_ediv_of_nonneg _ (show (0 : Int) ≤ 4294967296 by decide)]; rfl
theorem wrap_natP {n : Nat} (h : n < 18446744073709551616) : IntKind.u64.wrap (n : Int) = n := wrap_id ⟨Int.natCast_nonneg _, Int.ofNat_lt.2 h⟩
theorem ok_Mul64 : ∀ a b, w64ok a → w64ok b → Owes Try.prog Cx.none [] 100 Try.f88 [sI .u64 a, sI .u64 b] (mul64G a b) := by
  intro a b ha hb
  rw [vc_Mul64]
  obtain ⟨p, rfl⟩ := Int.eq_ofNat_of_zero_le ha.1
  obtain ⟨q, rfl⟩ := Int.eq_ofNat_of_zero_le hb.1
  have hp : p < 18446744073709551616 := Int.ofNat_lt.1 ha.2
  have hq : q < 18446744073709551616 := Int.ofNat_lt.1 hb.2
  intro x1 x2 x3
  have e1 : x1 = ((q % 4294967296 : Nat) : Int) := by simp only [x1]; rw [and_low q hq]; exact wrap_natP (by omega)
  obtain ⟨m1, m2, m3, m4⟩ := Lib.mul64_hi p q hp hq
  have e2 : x2 = (((p / 4294967296) * (q % 4294967296) + (p % 4294967296) * (q % 4294967296) / 4294967296 : Nat) : Int) := by
    simp only [x2, e1]
    rw [fdiv_low, and_low p hp, wrap_natP (show p % 4294967296 < 18446744073709551616 by omega), ← Int.natCast_mul, ← Int.natCast_mul, wrap_natP m1, fdiv_low]
    have : (p / 4294967296) * (q % 4294967296) < 18446744073709551616 := Nat.lt_of_le_of_lt (Nat.le_add_right _ _) m2
    rw [wrap_natP this, ← Int.natCast_add, wrap_natP m2]
  have e3 : x3 = ((p * q : Nat) : Int) := (Int.natCast_mul p q).symm
  have hpq : p * q / 18446744073709551616 < 18446744073709551616 := by
    have : p * q ≤ 18446744073709551615 * 18446744073709551615 := Nat.mul_le_mul (by omega) (by omega)
    omega
  clear_value x3 x2 x1
  subst e1 e2 e3
  constructor
  · rw [fdiv_low, fdiv_low, fdiv_low, and_low p hp, and_low _ m2, wrap_natP (show p % 4294967296 < 18446744073709551616 by omega), ← Int.natCast_mul, ← Int.natCast_mul]
    have k1 : (p / 4294967296) * (q / 4294967296) < 18446744073709551616 := by rw [← m4] at hpq; omega
    have k2 : (p % 4294967296) * (q / 4294967296) < 18446744073709551616 := Nat.lt_of_le_of_lt (Nat.le_add_left _ _) m3
    rw [wrap_natP k1, wrap_natP k2, wrap_natP (show _ % 4294967296 < 18446744073709551616 by omega), ← Int.natCast_add, ← Int.natCast_add, wrap_natP m3, fdiv_low]
    have k3 : (p / 4294967296) * (q / 4294967296) + ((p / 4294967296) * (q % 4294967296) + (p % 4294967296) * (q % 4294967296) / 4294967296) / 4294967296 < 18446744073709551616 := by rw [← m4] at hpq; exact Nat.lt_of_le_of_lt (Nat.le_add_right _ _) hpq
    rw [wrap_natP k3, ← Int.natCast_add, m4, wrap_natP hpq]
    rfl
  · unfold IntKind.wrap
    simp [IntKind.signed, IntKind.bits]
end Go.Proofs.Ytohnkglcabfpjaa
end

section
namespace Go.Proofs.Ytohnkglcabfpjaa
open Go.Sx
end Go.Proofs.Ytohnkglcabfpjaa
end

section
namespace Go.Proofs.Ytohnkglcabfpjaa
open Go.Sx
end Go.Proofs.Ytohnkglcabfpjaa
end

section
namespace Go.Proofs.Ytohnkglcabfpjaa
open Go.Sx
theorem CxOK_nil : CxOK Try.prog Cx.none := ⟨fun _ h => (by cases h), fun _ h => (by cases h)⟩
theorem CxOK_wnil {gl : Globs} : CxOK Try.prog ⟨[], gl, 0, []⟩ := ⟨fun _ h => (by cases h), fun _ h => (by cases h)⟩
theorem CxOK_cons {f : Nat} {s : FSpec} {l : List (Nat × FSpec)} {gl : Globs} {wf : List (Nat × WSpec)} (h : FnOKg Try.prog gl f s) (hs : CxOK Try.prog ⟨l, gl, 0, wf⟩) : CxOK Try.prog ⟨(f, s) :: l, gl, 0, wf⟩ := by
  refine ⟨fun p hp => ?_, hs.2⟩
  rcases List.mem_cons.1 hp with rfl | hp
  · exact h
  · exact hs.1 p hp
theorem CxOK_wcons {f : Nat} {s : WSpec} {gl : Globs} {wf : List (Nat × WSpec)} (h : FnOKw Try.prog gl f s) (hs : CxOK Try.prog ⟨[], gl, 0, wf⟩) : CxOK Try.prog ⟨[], gl, 0, (f, s) :: wf⟩ := by
  refine ⟨hs.1, fun p hp => ?_⟩
  rcases List.mem_cons.1 hp with rfl | hp
  · exact h
  · exact hs.2 p hp
theorem bnd_U (n : Nat) : SA.bnd none0 (sU n) := by
  intro k hk; simp only [List.mem_singleton] at hk; subst hk; trivial
theorem bnd_I (k : IntKind) (n : Int) : SA.bnd none0 (sI k n) := trivial
theorem bnd_B (b : Bool) : SA.bnd none0 (sB b) := trivial
theorem bnd_one {x : SA} (h : x.bnd none0) : SV.bnd none0 (.one x) := h
theorem bnd_two {x y : SA} (h : x.bnd none0) (h' : y.bnd none0) : SV.bnd none0 (.tup [x, y]) := by
  intro z hz
  simp only [List.mem_cons, List.not_mem_nil, or_false] at hz
  rcases hz with rfl | rfl
  · exact h
  · exact h'
theorem card_Add64 : FnOK Try.prog 89 specAdd64 := FnOK_add64 Try.func89 (by kernel_rfl) (by kernel_rfl) (by kernel_rfl) (by kernel_rfl)
theorem card_Sub64 : FnOK Try.prog 92 specSub64 := FnOK_sub64 Try.func92 (by kernel_rfl) (by kernel_rfl) (by kernel_rfl) (by kernel_rfl)
theorem cxok_plus : CxOK Try.prog cxPlus := CxOK_cons card_Add64 CxOK_nil
theorem card_plus : FnOK Try.prog 83 (specUU plusG) :=
  FnOK_UU cxok_plus (iv := []) (N := 100) Try.func83 (by kernel_rfl) (by kernel_rfl) (fun a b => by unfold plusG; exact bnd_two (bnd_U _) (bnd_I _ _)) ok_plus
theorem cxok_less : CxOK Try.prog cxLess := CxOK_cons card_Sub64 CxOK_nil
theorem card_less : FnOK Try.prog 82 (specUU lessG) :=
  FnOK_UU cxok_less (iv := []) (N := 100) Try.func82 (by kernel_rfl) (by kernel_rfl) (fun a b => by unfold lessG; exact bnd_two (bnd_U _) (bnd_I _ _)) ok_less
theorem cxok_Add : CxOK Try.prog cxAdd := CxOK_cons card_plus CxOK_nil
theorem card_Add : FnOK Try.prog 63 (specUU addG) :=
  FnOK_UU cxok_Add (iv := []) (N := 100) Try.func63 (by kernel_rfl) (by kernel_rfl) (fun a b => by unfold addG; exact bnd_two (bnd_U _) (bnd_B _)) ok_Add
theorem cxok_Sub : CxOK Try.prog cxSub := CxOK_cons card_less CxOK_nil
theorem card_Sub : FnOK Try.prog 62 (specUU subG) :=
  FnOK_UU cxok_Sub (iv := []) (N := 100) Try.func62 (by kernel_rfl) (by kernel_rfl) (fun a b => by unfold subG; exact bnd_two (bnd_U _) (bnd_B _)) ok_Sub
theorem card_Cmp : FnOK Try.prog 40 (specUU cmpG) :=
  FnOK_UU CxOK_nil (iv := []) (N := 100) Try.func40 (by kernel_rfl) (by kernel_rfl) (fun a b => by unfold cmpG; exact bnd_one (bnd_I _ _)) ok_Cmp
end Go.Proofs.Ytohnkglcabfpjaa
end

section
namespace Go.Proofs.Ytohnkglcabfpjaa
open Go.Sx
theorem card_Mul64 : FnOK Try.prog 88 (specWW mul64G) :=
  FnOK_WW CxOK_nil (iv := []) (N := 100) Try.func88 (by kernel_rfl) (by kernel_rfl) (fun a b => by unfold mul64G; exact bnd_two (bnd_I _ _) (bnd_I _ _)) ok_Mul64
theorem cxok_times : CxOK Try.prog cxTimes2 := CxOK_cons card_Mul64 (CxOK_cons card_Add64 CxOK_nil)
theorem card_times : FnOK Try.prog 86 (specUI timesG) :=
  FnOK_UI cxok_times (iv := []) (N := 100) Try.func86 (by kernel_rfl) (by kernel_rfl) (fun a n => by unfold timesG; exact bnd_two (bnd_U _) (bnd_I _ _)) ok_times
theorem cxok_Mul : CxOK Try.prog cxMul2 := CxOK_cons card_Mul64 (CxOK_cons card_Add64 CxOK_nil)
theorem card_Mul : FnOK Try.prog 70 (specUU mulG) :=
  FnOK_UU cxok_Mul (iv := []) (N := 100) Try.func70 (by kernel_rfl) (by kernel_rfl) (fun a b => by unfold mulG; exact bnd_two (bnd_U _) (bnd_U _)) ok_Mul
end Go.Proofs.Ytohnkglcabfpjaa
end

section
namespace Go.Proofs.Ytohnkglcabfpjaa
open Go.Sx
theorem u8_wrap (n : Nat) : IntKind.u8.wrap (n : Int) = ((n % 256 : Nat) : Int) := by
  unfold IntKind.wrap
  simp [IntKind.signed, IntKind.bits]
theorem pow8_le (m : Nat) (hm : m < 8) : 2 ^ (8 * m) * 256 ≤ 18446744073709551616 := by
  have h : 2 ^ (8 * m) ≤ 2 ^ 56 := Nat.pow_le_pow_right (by decide) (by omega)
  omega
theorem or_step (x : Int) (y : Int) (m : Nat) (d : Int) (hx : 0 ≤ x ∧ x < d) (hy : 0 ≤ y ∧ y < 256) (hm : m < 8) (hd : d = ((2 ^ (8 * m) : Nat) : Int)) :
    IntKind.u64.wrap ((BitVec.ofInt 64 x ||| BitVec.ofInt 64 (IntKind.u64.wrap (IntKind.u64.wrap y * d))).toNat : Int) = x + y * d ∧ 0 ≤ x + y * d ∧ x + y * d < d * 256 := by
  subst hd
  obtain ⟨x, rfl⟩ := Int.eq_ofNat_of_zero_le hx.1
  obtain ⟨y, rfl⟩ := Int.eq_ofNat_of_zero_le hy.1
  have hx' : x < 2 ^ (8 * m) := Int.ofNat_lt.1 hx.2
  have hy' : y < 256 := by omega
  have hp := pow8_le m hm
  have hyd : y * 2 ^ (8 * m) + 2 ^ (8 * m) ≤ 2 ^ (8 * m) * 256 := by
    have : (y + 1) * 2 ^ (8 * m) ≤ 256 * 2 ^ (8 * m) := Nat.mul_le_mul_right _ (by omega)
    rw [Nat.add_mul, Nat.one_mul, Nat.mul_comm 256] at this
    exact this
  have hd0 : 0 < 2 ^ (8 * m) := Nat.two_pow_pos _
  generalize hD : 2 ^ (8 * m) = D at *
  have e0 : IntKind.u64.wrap (y : Int) = y := wrap_id ⟨by omega, by omega⟩
  have e1 : (y : Int) * (D : Int) = ((y * D : Nat) : Int) := (Int.natCast_mul y D).symm
  rw [e0, e1, wrap_id (n := ((y * D : Nat) : Int)) ⟨by omega, by omega⟩]
  have b1 : (BitVec.ofInt 64 (x : Int)).toNat = x := by rw [BitVec.toNat_ofInt]; omega
  have b2 : (BitVec.ofInt 64 ((y * D : Nat) : Int)).toNat = y * D := by rw [BitVec.toNat_ofInt]; omega
  rw [BitVec.toNat_or, b1, b2]
  have ho : x ||| y * D = y * D + x := by
    rw [Nat.or_comm, ← hD, Nat.mul_comm]
    exact (Nat.two_pow_add_eq_or_of_lt (by rw [hD]; exact hx') y).symm
  rw [ho, wrap_id ⟨by omega, by omega⟩]
  omega
theorem or_row (g : Nat → Int) (i : Nat) (h0 : 0 ≤ g i ∧ g i < 256) (h1 : 0 ≤ g (i - 1) ∧ g (i - 1) < 256) (h2 : 0 ≤ g (i - 2) ∧ g (i - 2) < 256) (h3 : 0 ≤ g (i - 3) ∧ g (i - 3) < 256)
    (h4 : 0 ≤ g (i - 4) ∧ g (i - 4) < 256) (h5 : 0 ≤ g (i - 5) ∧ g (i - 5) < 256) (h6 : 0 ≤ g (i - 6) ∧ g (i - 6) < 256) (h7 : 0 ≤ g (i - 7) ∧ g (i - 7) < 256) (r : Int)
    (hr : r = IntKind.u64.wrap ((BitVec.ofInt 64 (IntKind.u64.wrap ((BitVec.ofInt 64 (IntKind.u64.wrap ((BitVec.ofInt 64 (IntKind.u64.wrap ((BitVec.ofInt 64 (IntKind.u64.wrap ((BitVec.ofInt 64 (IntKind.u64.wrap ((BitVec.ofInt 64 (IntKind.u64.wrap ((BitVec.ofInt 64 (IntKind.u64.wrap ((BitVec.ofInt 64 (0 : Int) |||
      BitVec.ofInt 64 (IntKind.u64.wrap (IntKind.u64.wrap (g i) * 1))).toNat : Int)) |||
      BitVec.ofInt 64 (IntKind.u64.wrap (IntKind.u64.wrap (g (i - 1)) * 256))).toNat : Int)) |||
      BitVec.ofInt 64 (IntKind.u64.wrap (IntKind.u64.wrap (g (i - 2)) * 65536))).toNat : Int)) |||
      BitVec.ofInt 64 (IntKind.u64.wrap (IntKind.u64.wrap (g (i - 3)) * 16777216))).toNat : Int)) |||
      BitVec.ofInt 64 (IntKind.u64.wrap (IntKind.u64.wrap (g (i - 4)) * 4294967296))).toNat : Int)) |||
      BitVec.ofInt 64 (IntKind.u64.wrap (IntKind.u64.wrap (g (i - 5)) * 1099511627776))).toNat : Int)) |||
      BitVec.ofInt 64 (IntKind.u64.wrap (IntKind.u64.wrap (g (i - 6)) * 281474976710656))).toNat : Int)) |||
      BitVec.ofInt 64 (IntKind.u64.wrap (IntKind.u64.wrap (g (i - 7)) * 72057594037927936))).toNat : Int)) :
    r = g i + 256 * g (i - 1) + 65536 * g (i - 2) + 16777216 * g (i - 3) + 4294967296 * g (i - 4) + 1099511627776 * g (i - 5) + 281474976710656 * g (i - 6) + 72057594037927936 * g (i - 7) := by
  obtain ⟨e0, a0, b0⟩ := or_step 0 (g i) 0 1 (by decide) h0 (by decide) rfl
  rw [e0] at hr
  obtain ⟨e1, a1, b1⟩ := or_step _ (g (i - 1)) 1 256 ⟨a0, b0⟩ h1 (by decide) rfl
  rw [e1] at hr
  obtain ⟨e2, a2, b2⟩ := or_step _ (g (i - 2)) 2 65536 ⟨a1, b1⟩ h2 (by decide) rfl
  rw [e2] at hr
  obtain ⟨e3, a3, b3⟩ := or_step _ (g (i - 3)) 3 16777216 ⟨a2, b2⟩ h3 (by decide) rfl
  rw [e3] at hr
  obtain ⟨e4, a4, b4⟩ := or_step _ (g (i - 4)) 4 4294967296 ⟨a3, b3⟩ h4 (by decide) rfl
  rw [e4] at hr
  obtain ⟨e5, a5, b5⟩ := or_step _ (g (i - 5)) 5 1099511627776 ⟨a4, b4⟩ h5 (by decide) rfl
  rw [e5] at hr
  obtain ⟨e6, a6, b6⟩ := or_step _ (g (i - 6)) 6 281474976710656 ⟨a5, b5⟩ h6 (by decide) rfl
  rw [e6] at hr
  obtain ⟨e7, a7, b7⟩ := or_step _ (g (i - 7)) 7 72057594037927936 ⟨a6, b6⟩ h7 (by decide) rfl
  rw [e7] at hr
  rw [hr]
  omega
theorem fromN_join (g : Nat → Int) (h : byteOK 32 g) (r0 r1 r2 r3 : Int)
    (h0 : r0 = g 31 + 256 * g 30 + 65536 * g 29 + 16777216 * g 28 + 4294967296 * g 27 + 1099511627776 * g 26 + 281474976710656 * g 25 + 72057594037927936 * g 24)
    (h1 : r1 = g 23 + 256 * g 22 + 65536 * g 21 + 16777216 * g 20 + 4294967296 * g 19 + 1099511627776 * g 18 + 281474976710656 * g 17 + 72057594037927936 * g 16)
    (h2 : r2 = g 15 + 256 * g 14 + 65536 * g 13 + 16777216 * g 12 + 4294967296 * g 11 + 1099511627776 * g 10 + 281474976710656 * g 9 + 72057594037927936 * g 8)
    (h3 : r3 = g 7 + 256 * g 6 + 65536 * g 5 + 16777216 * g 4 + 4294967296 * g 3 + 1099511627776 * g 2 + 281474976710656 * g 1 + 72057594037927936 * g 0) :
    (0 ≤ r0 ∧ r0 < 18446744073709551616) ∧ (0 ≤ r1 ∧ r1 < 18446744073709551616) ∧ (0 ≤ r2 ∧ r2 < 18446744073709551616) ∧ (0 ≤ r3 ∧ r3 < 18446744073709551616) ∧ join r0 r1 r2 r3 = fromN g 32 := by
  have hb : ∀ j, j < 32 → ∃ b : Nat, g j = b ∧ b < 256 := fun j hj => ⟨(g j).toNat, by have := h j hj; omega, by have := h j hj; omega⟩
  obtain ⟨b0, e0, l0⟩ := hb 0 (by decide)
  obtain ⟨b1, e1, l1⟩ := hb 1 (by decide)
  obtain ⟨b2, e2, l2⟩ := hb 2 (by decide)
  obtain ⟨b3, e3, l3⟩ := hb 3 (by decide)
  obtain ⟨b4, e4, l4⟩ := hb 4 (by decide)
  obtain ⟨b5, e5, l5⟩ := hb 5 (by decide)
  obtain ⟨b6, e6, l6⟩ := hb 6 (by decide)
  obtain ⟨b7, e7, l7⟩ := hb 7 (by decide)
  obtain ⟨b8, e8, l8⟩ := hb 8 (by decide)
  obtain ⟨b9, e9, l9⟩ := hb 9 (by decide)
  obtain ⟨b10, e10, l10⟩ := hb 10 (by decide)
  obtain ⟨b11, e11, l11⟩ := hb 11 (by decide)
  obtain ⟨b12, e12, l12⟩ := hb 12 (by decide)
  obtain ⟨b13, e13, l13⟩ := hb 13 (by decide)
  obtain ⟨b14, e14, l14⟩ := hb 14 (by decide)
  obtain ⟨b15, e15, l15⟩ := hb 15 (by decide)
  obtain ⟨b16, e16, l16⟩ := hb 16 (by decide)
  obtain ⟨b17, e17, l17⟩ := hb 17 (by decide)
  obtain ⟨b18, e18, l18⟩ := hb 18 (by decide)
  obtain ⟨b19, e19, l19⟩ := hb 19 (by decide)
  obtain ⟨b20, e20, l20⟩ := hb 20 (by decide)
  obtain ⟨b21, e21, l21⟩ := hb 21 (by decide)
  obtain ⟨b22, e22, l22⟩ := hb 22 (by decide)
  obtain ⟨b23, e23, l23⟩ := hb 23 (by decide)
  obtain ⟨b24, e24, l24⟩ := hb 24 (by decide)
  obtain ⟨b25, e25, l25⟩ := hb 25 (by decide)
  obtain ⟨b26, e26, l26⟩ := hb 26 (by decide)
  obtain ⟨b27, e27, l27⟩ := hb 27 (by decide)
  obtain ⟨b28, e28, l28⟩ := hb 28 (by decide)
  obtain ⟨b29, e29, l29⟩ := hb 29 (by decide)
  obtain ⟨b30, e30, l30⟩ := hb 30 (by decide)
  obtain ⟨b31, e31, l31⟩ := hb 31 (by decide)
  simp only [fromN, Nat.sub_zero, Nat.reduceSub, e0, e1, e2, e3, e4, e5, e6, e7, e8, e9, e10, e11, e12, e13, e14, e15, e16, e17, e18, e19, e20, e21, e22, e23, e24, e25, e26, e27, e28, e29, e30, e31] at *
  clear h hb e0 e1 e2 e3 e4 e5 e6 e7 e8 e9 e10 e11 e12 e13 e14 e15 e16 e17 e18 e19 e20 e21 e22 e23 e24 e25 e26 e27 e28 e29 e30 e31
  have k0 : r0.toNat = b31 + 256 * b30 + 65536 * b29 + 16777216 * b28 + 4294967296 * b27 + 1099511627776 * b26 + 281474976710656 * b25 + 72057594037927936 * b24 := by omega
  have k1 : r1.toNat = b23 + 256 * b22 + 65536 * b21 + 16777216 * b20 + 4294967296 * b19 + 1099511627776 * b18 + 281474976710656 * b17 + 72057594037927936 * b16 := by omega
  have k2 : r2.toNat = b15 + 256 * b14 + 65536 * b13 + 16777216 * b12 + 4294967296 * b11 + 1099511627776 * b10 + 281474976710656 * b9 + 72057594037927936 * b8 := by omega
  have k3 : r3.toNat = b7 + 256 * b6 + 65536 * b5 + 16777216 * b4 + 4294967296 * b3 + 1099511627776 * b2 + 281474976710656 * b1 + 72057594037927936 * b0 := by omega
  refine ⟨by omega, by omega, by omega, by omega, ?_⟩
  unfold join
  rw [k0, k1, k2, k3]
  simp only [Nat.reducePow, Int.toNat_natCast]
  omega
theorem ok_From : ∀ g, byteOK 32 g → Owes Try.prog Cx.none [] 400 Try.f77 [sBy 32 g] (fromG g) := by
  intro g hg
  rw [vc_From]
  intro x1 x2 x3 x4
  have hb : ∀ j, j < 32 → 0 ≤ g j ∧ g j < 256 := hg
  have e1 := or_row g 31 (hb _ (by decide)) (hb _ (by decide)) (hb _ (by decide)) (hb _ (by decide)) (hb _ (by decide)) (hb _ (by decide)) (hb _ (by decide)) (hb _ (by decide)) x1 rfl
  have e2 := or_row g 23 (hb _ (by decide)) (hb _ (by decide)) (hb _ (by decide)) (hb _ (by decide)) (hb _ (by decide)) (hb _ (by decide)) (hb _ (by decide)) (hb _ (by decide)) x2 rfl
  have e3 := or_row g 15 (hb _ (by decide)) (hb _ (by decide)) (hb _ (by decide)) (hb _ (by decide)) (hb _ (by decide)) (hb _ (by decide)) (hb _ (by decide)) (hb _ (by decide)) x3 rfl
  have e4 := or_row g 7 (hb _ (by decide)) (hb _ (by decide)) (hb _ (by decide)) (hb _ (by decide)) (hb _ (by decide)) (hb _ (by decide)) (hb _ (by decide)) (hb _ (by decide)) x4 rfl
  clear_value x1 x2 x3 x4
  obtain ⟨k0, k1, k2, k3, kj⟩ := fromN_join g hg x1 x2 x3 x4 e1 e2 e3 e4
  rw [kj]
  exact ⟨k0, k1, k2, k3, rfl, trivial⟩
theorem card_From : FnOK Try.prog 77 (specB fromG) :=
  FnOK_B CxOK_nil (iv := []) (N := 400) Try.func77 (by kernel_rfl) (by kernel_rfl) (fun g => by unfold fromG; exact bnd_one (bnd_U _)) ok_From
end Go.Proofs.Ytohnkglcabfpjaa
end

section
namespace Go.Proofs.Ytohnkglcabfpjaa
open Go.Sx
theorem table_len : ∀ m : Fin 256, ((lit_650f3990.data.getD m.val 0).toNat : Int) = if m.val = 0 then 0 else ((Nat.log2 m.val + 1 : Nat) : Int) := by decide +kernel
theorem log2_shift (n k : Nat) (h : 1 ≤ n / 2 ^ k) : Nat.log2 n = k + Nat.log2 (n / 2 ^ k) := by
  have hp : 0 < 2 ^ k := Nat.two_pow_pos k
  have hn : n ≠ 0 := by rintro rfl; simp at h
  have hm : n / 2 ^ k ≠ 0 := by omega
  obtain ⟨a, b⟩ := (Nat.log2_eq_iff hm).1 rfl
  rw [Nat.log2_eq_iff hn]
  rw [Nat.le_div_iff_mul_le hp] at a
  rw [Nat.div_lt_iff_lt_mul hp] at b
  refine ⟨by rw [Nat.pow_add, Nat.mul_comm]; exact a, ?_⟩
  have : 2 ^ (k + (n / 2 ^ k).log2 + 1) = 2 ^ ((n / 2 ^ k).log2 + 1) * 2 ^ k := by rw [← Nat.pow_add]; congr 1; omega
  rw [this]; exact b
theorem u8_small (m : Nat) (h : m < 256) : IntKind.u8.wrap (m : Int) = m := by rw [u8_wrap, Nat.mod_eq_of_lt h]
theorem lenN_le (n : Nat) (h : n < 18446744073709551616) : 0 ≤ lenN n ∧ lenN n ≤ 64 := by
  unfold lenN
  rw [Int.toNat_natCast]
  split
  · decide
  · rename_i h0
    have := (Nat.log2_lt h0 (k := 64)).2 (by omega)
    omega
theorem len_leaf (n k : Nat) (c : Int) (m : Nat) (hc : c = k) (hk : k ≤ 56) (hm : m = n / 2 ^ k) (h : m < 256) (h1 : k = 0 ∨ 1 ≤ m) (hn : n < 18446744073709551616) :
    (0 ≤ IntKind.u8.wrap (m : Int) ∧ (IntKind.u8.wrap (m : Int)).toNat < 256) ∧ IntKind.i64.wrap (c + IntKind.i64.wrap ((lit_650f3990.data.getD (IntKind.u8.wrap (m : Int)).toNat 0).toNat : Int)) = lenN n := by
  rw [u8_small m h, Int.toNat_natCast]
  refine ⟨⟨by omega, h⟩, ?_⟩
  have ht := table_len ⟨m, h⟩
  simp only at ht
  rw [ht]
  have hl : lenN n = c + if m = 0 then 0 else ((Nat.log2 m + 1 : Nat) : Int) := by
    unfold lenN
    rw [Int.toNat_natCast, hc]
    rcases h1 with rfl | h1
    · rw [Nat.pow_zero, Nat.div_one] at hm
      subst hm
      simp
    · have hn0 : n ≠ 0 := by rintro rfl; simp at hm; omega
      rw [if_neg hn0, if_neg (by omega), log2_shift n k (by omega), ← hm]
      omega
  have hb := lenN_le n hn
  rw [hl] at hb ⊢
  have hi : 0 ≤ (if m = 0 then 0 else ((Nat.log2 m + 1 : Nat) : Int)) := by split <;> omega
  have e1 := IntWalk.i64_in (if m = 0 then 0 else ((Nat.log2 m + 1 : Nat) : Int)) (by omega)
  rw [e1, IntWalk.i64_in _ (by omega)]
theorem fd32 (n : Nat) : (n : Int).fdiv 4294967296 = ((n / 4294967296 : Nat) : Int) := fdiv_low n
theorem fd16 (n : Nat) : (n : Int).fdiv 65536 = ((n / 65536 : Nat) : Int) := by
  rw [Int.fdiv_eq_ediv_of_nonneg _ (show (0 : Int) ≤ 65536 by decide)]; rfl
theorem fd8 (n : Nat) : (n : Int).fdiv 256 = ((n / 256 : Nat) : Int) := by
  rw [Int.fdiv_eq_ediv_of_nonneg _ (show (0 : Int) ≤ 256 by decide)]; rfl
theorem ok_Len64 : ∀ x, w64ok x → Owes Try.prog Cx.none [] 100 Try.f93 [sI .u64 x] (lenG x) := by
  intro x hx
  rw [vc_Len64]
  obtain ⟨n, rfl⟩ := Int.eq_ofNat_of_zero_le hx.1
  have hn : n < 18446744073709551616 := Int.ofNat_lt.1 hx.2
  dsimp only
  simp only [fd32, fd16, fd8, Nat.div_div_eq_div_mul, Nat.reduceMul, decide_eq_true_eq, decide_eq_false_iff_not]
  refine ⟨fun a => ⟨fun b => ⟨fun c => ?_, fun c => ?_⟩, fun b => ⟨fun c => ?_, fun c => ?_⟩⟩, fun a => ⟨fun b => ⟨fun c => ?_, fun c => ?_⟩, fun b => ⟨fun c => ?_, fun c => ?_⟩⟩⟩
  · exact len_leaf n 56 _ _ rfl (by decide) rfl (by omega) (.inr (by omega)) hn
  · exact len_leaf n 48 _ _ rfl (by decide) rfl (by omega) (.inr (by omega)) hn
  · exact len_leaf n 40 _ _ rfl (by decide) rfl (by omega) (.inr (by omega)) hn
  · exact len_leaf n 32 _ _ rfl (by decide) rfl (by omega) (.inr (by omega)) hn
  · exact len_leaf n 24 _ _ rfl (by decide) rfl (by omega) (.inr (by omega)) hn
  · exact len_leaf n 16 _ _ rfl (by decide) rfl (by omega) (.inr (by omega)) hn
  · exact len_leaf n 8 _ _ rfl (by decide) rfl (by omega) (.inr (by omega)) hn
  · exact len_leaf n 0 _ _ rfl (by decide) (by simp) (by omega) (.inl rfl) hn
theorem ok_LZ64 : ∀ x, w64ok x → Owes Try.prog cxLz [] 100 Try.f84 [sI .u64 x] (lzG x) := by
  intro x hx
  rw [vc_LZ64]
  obtain ⟨n, rfl⟩ := Int.eq_ofNat_of_zero_le hx.1
  have hb := lenN_le n (Int.ofNat_lt.1 hx.2)
  exact ⟨hx, IntWalk.i64_in _ (by omega)⟩
theorem card_Len64 : FnOK Try.prog 93 (specW lenG) :=
  FnOK_W CxOK_nil (iv := fun _ => []) (N := 100) Try.func93 (by kernel_rfl) (by kernel_rfl) (fun a => bnd_one (bnd_I _ _)) ok_Len64
theorem card_LZ64 : FnOK Try.prog 84 (specW lzG) :=
  FnOK_W (CxOK_cons card_Len64 CxOK_nil) (iv := fun _ => []) (N := 100) Try.func84 (by kernel_rfl) (by kernel_rfl) (fun a => bnd_one (bnd_I _ _)) ok_LZ64
end Go.Proofs.Ytohnkglcabfpjaa
end

section
namespace Go.Proofs.Ytohnkglcabfpjaa
open Go.Sx
structure Dig (Y y1 y0 U w : Nat) : Prop where
  hY : Y = y1 * 4294967296 + y0
  h0 : y0 < 4294967296
  h1 : 2147483648 ≤ y1
  h1' : y1 < 4294967296
  hU : U < Y
  hw : w < 4294967296
structure DigAt (Y y1 y0 U w q r : Nat) : Prop extends Dig Y y1 y0 U w where
  hq : q * y1 + r = U
  hr : r < 4294967296
  hQ : (U * 4294967296 + w) / Y ≤ q
  hq' : q ≤ 4294967297
theorem Dig.pos {Y y1 y0 U w : Nat} (h : Dig Y y1 y0 U w) : 0 < Y := by have := h.hU; omega
theorem Dig.lt {Y y1 y0 U w : Nat} (h : Dig Y y1 y0 U w) : (U * 4294967296 + w) / Y < 4294967296 := by
  rw [Nat.div_lt_iff_lt_mul h.pos]
  have a := h.hU
  have b := h.hw
  omega
theorem Dig.start {Y y1 y0 U w : Nat} (h : Dig Y y1 y0 U w) : DigAt Y y1 y0 U w (U / y1) (U % y1) := by
  have hy := h.h1
  have hy' := h.h1'
  have hU := h.hU
  have hw := h.hw
  have hY := h.hY
  have h0 := h.h0
  have hp : 0 < y1 := by omega
  have hm := Nat.mod_lt U hp
  refine ⟨h, by rw [Nat.mul_comm]; exact Nat.div_add_mod U y1, by omega, ?_, ?_⟩
  · rw [Nat.le_div_iff_mul_le hp]
    have a := Nat.div_mul_le_self (U * 4294967296 + w) Y
    generalize (U * 4294967296 + w) / Y = Q at *
    have b : Q * Y = Q * y1 * 4294967296 + Q * y0 := by rw [hY, Nat.mul_add, Nat.mul_assoc]
    generalize Q * y1 = A at *
    generalize Q * y0 = B at *
    omega
  · have : U / y1 < 4294967298 := by
      rw [Nat.div_lt_iff_lt_mul hp]
      omega
    omega
theorem DigAt.mul {Y y1 y0 U w q r : Nat} (h : DigAt Y y1 y0 U w q r) : q * Y + r * 4294967296 = U * 4294967296 + q * y0 := by
  have hq := h.hq
  have : q * Y = q * y1 * 4294967296 + q * y0 := by rw [h.hY, Nat.mul_add, Nat.mul_assoc]
  generalize q * y1 = A at *
  omega
theorem DigAt.done {Y y1 y0 U w q r : Nat} (h : DigAt Y y1 y0 U w q r) (hc : q * y0 ≤ 4294967296 * r + w) : q = (U * 4294967296 + w) / Y := by
  have a := h.mul
  have hQ := h.hQ
  have : q ≤ (U * 4294967296 + w) / Y := by
    rw [Nat.le_div_iff_mul_le h.pos]
    omega
  exact Nat.le_antisymm this hQ
theorem DigAt.more {Y y1 y0 U w q r : Nat} (h : DigAt Y y1 y0 U w q r) (hc : 4294967296 ≤ q ∨ 4294967296 * r + w < q * y0) : (U * 4294967296 + w) / Y + 1 ≤ q := by
  rcases hc with hc | hc
  · exact Nat.le_trans h.lt hc
  · have a := h.mul
    rw [Nat.succ_le_iff, Nat.div_lt_iff_lt_mul h.pos]
    omega
theorem DigAt.pred {Y y1 y0 U w q r : Nat} (h : DigAt Y y1 y0 U w q r) (hc : 4294967296 ≤ q ∨ 4294967296 * r + w < q * y0) : (q - 1) * y1 + (r + y1) = U ∧ 1 ≤ q ∧ (U * 4294967296 + w) / Y ≤ q - 1 := by
  have a := h.more hc
  have hq := h.hq
  generalize (U * 4294967296 + w) / Y = Q at *
  obtain ⟨p, rfl⟩ : ∃ p, q = p + 1 := ⟨q - 1, by omega⟩
  rw [Nat.add_mul, Nat.one_mul] at hq
  rw [Nat.add_sub_cancel]
  refine ⟨by omega, by omega, by omega⟩
theorem DigAt.last {Y y1 y0 U w q r : Nat} (h : DigAt Y y1 y0 U w q r) (hc : 4294967296 ≤ q ∨ 4294967296 * r + w < q * y0) (hs : 4294967296 ≤ r + y1) : q - 1 = (U * 4294967296 + w) / Y := by
  obtain ⟨b, b1, b2⟩ := h.pred hc
  have c : (q - 1) * Y + (r + y1) * 4294967296 = U * 4294967296 + (q - 1) * y0 := by
    have : (q - 1) * Y = (q - 1) * y1 * 4294967296 + (q - 1) * y0 := by rw [h.hY, Nat.mul_add, Nat.mul_assoc]
    generalize (q - 1) * y1 = A at *
    omega
  have h0 := h.h0
  have hq' := h.hq'
  have d : (q - 1) * y0 ≤ 4294967296 * 4294967295 := Nat.mul_le_mul (by omega) (by omega)
  have : q - 1 ≤ (U * 4294967296 + w) / Y := by
    rw [Nat.le_div_iff_mul_le h.pos]
    generalize (q - 1) * Y = A at *
    generalize (q - 1) * y0 = B at *
    omega
  exact Nat.le_antisymm this b2
theorem DigAt.step {Y y1 y0 U w q r : Nat} (h : DigAt Y y1 y0 U w q r) (hc : 4294967296 ≤ q ∨ 4294967296 * r + w < q * y0) (hs : r + y1 < 4294967296) : DigAt Y y1 y0 U w (q - 1) (r + y1) := by
  obtain ⟨b, b1, b2⟩ := h.pred hc
  exact ⟨h.toDig, b, hs, b2, by have := h.hq'; omega⟩
theorem two_digits_of {Y U L H : Nat} (hY : 0 < Y) : (U * (H * H) + L) / Y = (U * H + L / H) / Y * H + ((U * H + L / H) % Y * H + L % H) / Y ∧ (U * (H * H) + L) % Y = ((U * H + L / H) % Y * H + L % H) % Y := by
  have e0 := Nat.div_add_mod L H
  have e : U * (H * H) + L = (U * H + L / H) * H + L % H := by
    rw [Nat.add_mul, Nat.mul_assoc, Nat.mul_comm (L / H), Nat.add_assoc, e0]
  rw [e]
  have d := Nat.div_add_mod (U * H + L / H) Y
  generalize U * H + L / H = A at *
  have e2 : A * H + L % H = (A % Y * H + L % H) + Y * (A / Y * H) := by
    have : A * H = Y * (A / Y * H) + A % Y * H := by
      conv => lhs; rw [← d]
      rw [Nat.add_mul, Nat.mul_assoc]
    omega
  rw [e2, Nat.add_mul_div_left _ _ hY, Nat.add_mul_mod_self_left]
  exact ⟨by rw [Nat.add_comm], rfl⟩
theorem two_digits {Y U L : Nat} (hY : 0 < Y) : (U * 18446744073709551616 + L) / Y = (U * 4294967296 + L / 4294967296) / Y * 4294967296 + ((U * 4294967296 + L / 4294967296) % Y * 4294967296 + L % 4294967296) / Y ∧
    (U * 18446744073709551616 + L) % Y = ((U * 4294967296 + L / 4294967296) % Y * 4294967296 + L % 4294967296) % Y := by
  have h := two_digits_of (Y := Y) (U := U) (L := L) (H := 4294967296) hY
  simp only [Nat.reduceMul] at h
  exact h
theorem len_two (y : Nat) (h0 : 0 < y) (h : y < 18446744073709551616) : ∃ s : Nat, s ≤ 63 ∧ 64 - lenN y = (s : Int) ∧ lenN y = ((64 - s : Nat) : Int) ∧ 9223372036854775808 ≤ y * 2 ^ s ∧ y * 2 ^ s < 18446744073709551616 := by
  have hy : y ≠ 0 := by omega
  have hb := (Nat.log2_lt hy (k := 64)).2 (by omega)
  obtain ⟨a, b⟩ := (Nat.log2_eq_iff hy).1 rfl
  refine ⟨63 - y.log2, by omega, ?_, ?_, ?_, ?_⟩
  · unfold lenN
    rw [Int.toNat_natCast, if_neg hy]
    omega
  · unfold lenN
    rw [Int.toNat_natCast, if_neg hy]
    omega
  · have := Nat.mul_le_mul_right (2 ^ (63 - y.log2)) a
    rw [← Nat.pow_add, show y.log2 + (63 - y.log2) = 63 by omega] at this
    exact this
  · have := Nat.mul_lt_mul_of_pos_right b (Nat.two_pow_pos (63 - y.log2))
    rw [← Nat.pow_add, show y.log2 + 1 + (63 - y.log2) = 64 by omega] at this
    exact this
theorem moved_all (h l y D E : Nat) (hDE : D * E = 18446744073709551616) (hl : l < 18446744073709551616) (hh : h < y) :
    h * D + l / E < y * D ∧ (h * 18446744073709551616 + l) * D = (h * D + l / E) * 18446744073709551616 + l * D % 18446744073709551616 ∧ l / E < D := by
  have hE : 0 < E := by rcases Nat.eq_zero_or_pos E with e | e; subst e; omega; exact e
  have hD : 0 < D := by rcases Nat.eq_zero_or_pos D with e | e; subst e; omega; exact e
  have hlE : l / E < D := by rw [Nat.div_lt_iff_lt_mul hE, hDE]; exact hl
  have e := Nat.div_add_mod l E
  have hm := Nat.mod_lt l hE
  have e2 : l * D = l / E * 18446744073709551616 + l % E * D := by
    conv => lhs; rw [← e]
    rw [Nat.add_mul, Nat.mul_comm E, Nat.mul_assoc, Nat.mul_comm E D, hDE]
  have e3 : l % E * D < 18446744073709551616 := by
    have := Nat.mul_lt_mul_of_pos_right hm hD
    rw [Nat.mul_comm E D, hDE] at this
    exact this
  refine ⟨?_, ?_, hlE⟩
  · have := Nat.mul_le_mul_right D (show h + 1 ≤ y by omega)
    rw [Nat.add_mul, Nat.one_mul] at this
    omega
  · rw [Nat.add_mul, Nat.add_mul, e2, Nat.mul_assoc, Nat.mul_comm 18446744073709551616 D, ← Nat.mul_assoc, Nat.mul_comm (l / E) 18446744073709551616, Nat.mul_add_mod, Nat.mod_eq_of_lt e3]
    omega
theorem div_moved (A y D : Nat) (hD : 0 < D) : A / y = A * D / (y * D) ∧ A % y = A * D % (y * D) / D := by
  refine ⟨(Nat.mul_div_mul_right A y hD).symm, ?_⟩
  rw [Nat.mul_mod_mul_right, Nat.mul_div_cancel _ hD]
end Go.Proofs.Ytohnkglcabfpjaa
end
