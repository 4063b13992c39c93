/-
  Texts: V136, P213, P214, P215, P216, P217, P218, P219, Open.
-/
import Derived.Test.YtamhchemnalfbaaM1
import Derived.Test.YtamhchemnalfbaaM2
import Derived.Test.YtamhchemnalfbaaM3
import Derived.Test.YtamhchemnalfbaaM4
import Derived.Test.YtamhchemnalfbaaM5
import Derived.Test.YtamhchemnalfbaaM6
import Derived.Test.YtamhchemnalfbaaM7
import Derived.Test.YtamhchemnalfbaaM8
import Derived.Test.YtamhchemnalfbaaM9
import Derived.Test.YtamhchemnalfbaaM10
import Derived.Test.YtamhchemnalfbaaM11
import Derived.Test.YtamhchemnalfbaaM12
import Derived.Test.YtamhchemnalfbaaM13
import Derived.Test.YtamhchemnalfbaaM14
import Derived.Test.YtamhchemnalfbaaM15
section
namespace Go.Proofs.Ytamhchemnalfbaa
open Go.Sx
set_option maxRecDepth 100000
structure slP (kd : Int) (am fe : Nat) (tk : Nat → Int) (hm : Int) (to : Nat → Int) (tc dc : Int) (sy : ByteArray) (m : Nat) (f : Nat → Nat → SC) (ix : Int) (y : Nat) (h : Nat → Nat → SC) (kd' : Int) (am' fe' : Nat) (tk' : Nat → Int) (hm' : Int) (to' : Nat → Int) (tc' dc' : Int) (sy' : ByteArray) (m' : Nat) (f' : Nat → Nat → SC) (ix' : Int) (y' : Nat) (h' : Nat → Nat → SC) : Prop where
  sf : f = u8F (kOf f)
  sh : h = u8F (kOf h)
  sf' : f' = u8F (kOf f')
  sh' : h' = u8F (kOf h')
  e1 : kd = kd'
  e2 : am % M256 = am' % M256
  e3 : fe % M256 = fe' % M256
  e4 : ∀ j, j < 32 → tk j = tk' j
  e5 : hm = hm'
  e6 : ∀ j, j < 32 → to j = to' j
  e7 : tc = tc'
  e8 : dc = dc'
  e9 : sy = sy'
  e10 : m = m'
  e11 : ∀ i, i < m → kOf f i 0 = kOf f' i 0
  e12 : ix = ix'
  e13 : y = y'
  e14 : ∀ i, i < y → ∀ c, c < 20 → kOf h i c = kOf h' i c
  hy : (y : Int) ≤ 9223372036854775806
def slC : List (List FD) → List Prop
  | [[.i kd, .u am, .u fe, .y tk, .i hm, .y to, .i tc, .i dc, .t sy, .x _ m _ f, .i ix, .x _ y _ h], [.i kd', .u am', .u fe', .y tk', .i hm', .y to', .i tc', .i dc', .t sy', .x _ m' _ f', .i ix', .x _ y' _ h']] => [slP kd am fe tk hm to tc dc sy m f ix y h kd' am' fe' tk' hm' to' tc' dc' sy' m' f' ix' y' h']
  | _ => [False]
def slG : List (List FD) → List RS := fun _ => [.v (sB true)]
def cSl : SSpec := specQ false shLd2 id slC slG
def loKd (q : Int) : Int := if q = 0 then 2 else if q = 1 then 4 else if q = 2 then 1 else 3
def loAm (q : Int) (p r : Nat) : Nat := if 2 ≤ q then (if cmpN p r < 0 then r else p) else 0
def loFe (q : Int) (p r : Nat) : Nat := if 2 ≤ q then (if cmpN p r < 0 then p else r) else 0
def loTk (q xa xb : Int) (xs : ByteArray) (ya yb : Int) (ys : ByteArray) (j : Nat) : Int := if q = 0 then wordF xa xb xs j else if q = 1 then 0 else wordF ya yb ys j
def loHm (q xb ya : Int) : Int := if q = 0 then ya % 65536 else if q = 1 then 0 else xb % 65536
def loTo (q xa xb : Int) (xs : ByteArray) (j : Nat) : Int := if 2 ≤ q then wordF xa xb xs j else 0
def loTc (q yb : Int) : Int := if 2 ≤ q then yb % 65536 else 0
def loDc (q xa : Int) : Int := if q = 0 then xa % 78 else 0
def symT (v : Int) : ByteArray := bytesI (intsL [SK.c (SC.val (Value.int .u8 (IntKind.u8.wrap (97 + IntKind.u8.wrap v)))), SK.c (SC.num .u8 122)])
def loSy (q xb yb : Int) : ByteArray := if q = 0 then (symT (xb % 26)).extract 0 (yb % 3).toNat else ⟨#[]⟩
def cuL (s : ByteArray) : Nat := min s.size 100
def cuF (s : ByteArray) (i : Nat) : Int := (((s.extract 0 (cuL s)).data.getD i (0 : UInt8)).toNat : Int)
def loM (q : Int) (s : ByteArray) : Nat := if q = 3 then cuL s else 0
def loIx (q xa : Int) : Int := if q = 1 then xa % 4294967296 else 0
def loY (q : Int) (n : Nat) : Nat := if q = 1 then 1 + min n 18 else 0
def loKk (xa xb : Int) (A B : Nat → Int) : Nat → Nat → Int := kyF (fun i => if i < 1 then xa else A (i - 1)) (fun i => if i < 1 then xb else B (i - 1))
def shRw : AQ := .st [.i .i64, .i .i64, .i .i64, .t]
def shLo : List AQ := [.one (.i .i64), shRw, shRw, .one (.x 4)]
structure loP (ad : Option Addr) (n : Nat) (f : Nat → Nat → SC) (k xk xa xb yk ya yb : Int) (xs ys : ByteArray) : Prop where
  nf : f = rawF (nOf f 0) (nOf f 1) (nOf f 2) (tOf f)
  rk : i64ok k
  rx : rawP xk xa xb xs
  ry : rawP yk ya yb ys
  ha : ad = none → n = 0
  hn : n ≤ maxLen
def loC : List (List FD) → List Prop
  | [[.i k], [.i xk, .i xa, .i xb, .t xs], [.i yk, .i ya, .i yb, .t ys], [.x ad n _ f]] => [loP ad n f k xk xa xb yk ya yb xs ys]
  | _ => [False]
def loRS (k xk xa xb : Int) (xs : ByteArray) (yk ya yb : Int) (ys : ByteArray) (n : Nat) (A B : Nat → Int) : List RS :=
  [.st [.k (.c (.val (.int .i64 (loKd (k % 4))))), .k (.u (loAm (k % 4) (rawN xk xa xb) (rawN yk ya yb))), .k (.u (loFe (k % 4) (rawN xk xa xb) (rawN yk ya yb))), .k (.f .u8 32 (loTk (k % 4) xa xb xs ya yb ys)), .k (.c (.val (.int .i64 (loHm (k % 4) xb ya)))), .k (.f .u8 32 (loTo (k % 4) xa xb xs)), .k (.c (.val (.int .i64 (loTc (k % 4) yb)))), .k (.c (.val (.int .i64 (loDc (k % 4) xa)))), .k (.c (.val (.string (loSy (k % 4) xb yb)))), .s (loM (k % 4) xs) 1 (u8F fun i _ => cuF xs i), .k (.c (.val (.int .i64 (loIx (k % 4) xa)))), .s (loY (k % 4) n) 20 (u8F (loKk xa xb A B))]]
def loG : List (List FD) → List RS
  | [[.i k], [.i xk, .i xa, .i xb, .t xs], [.i yk, .i ya, .i yb, .t ys], [.x _ n _ f]] => loRS k xk xa xb xs yk ya yb ys n (nOf f 1) (nOf f 2)
  | _ => []
def cLo : SSpec := specQ true shLo id loC loG
noncomputable def cLenI : SSpec := specQ false shLd id ldC lenS
noncomputable def cLdI : SSpec := specQ false shLd id ldC ldS
def cRdI : SSpec := specQ false shRd id rdC rdS
def cxLk : Cx := ⟨[(8, cPk), (1000000010, fun _ => none), (1000000012, fun _ => none), (1000000013, fun _ => none), (1000000014, fun _ => none)], [], 0, []⟩
noncomputable def slLk : List (Nat × SSpec) := [(13, cLo), (14, cLenI), (15, cRdI), (16, cLdI), (17, cSl)]
set_option maxHeartbeats 4000000 in
theorem vc_LoadBack (k xk xa xb : Int) (xs : ByteArray) (yk ya yb : Int) (ys : ByteArray) (a : Option Addr) (n cap : Nat) (K A B : Nat → Int) (s : Nat → ByteArray) (at_ : Int) :
    OwesV Try.prog cxLk slLk [] 30 Try.f5 [sI .i64 k, sRaw xk xa xb xs, sRaw yk ya yb ys, .sc (.xs a n cap 4 (rawF K A B s)), sI .i64 at_] yes =
    (let x1 : Int := k % (4 : Int); let x2 : Nat := loM x1 xs; let x3 : Nat := loY x1 n; let x4 : Int := loKd x1; let x5 : Nat := loAm x1 (rawN xk xa xb) (rawN yk ya yb); let x6 : Nat := loFe x1 (rawN xk xa xb) (rawN yk ya yb); let x7 : Int := loHm x1 xb ya; let x8 : Int := loTc x1 yb; let x9 : Int := loDc x1 xa; let x10 : Int := loIx x1 xa; let x11 : Int := ldE x4 x5 x6 (loTk x1 xa xb xs ya yb ys) x7 (loTo x1 xa xb xs) x8 x9 (loSy x1 xb yb) x2 x10 x3; let x12 : Nat := if x11 = (0 : Int) then ldN x4 x2 x3 else 0; let x13 : Nat := rM x12 fun (i : Nat) => kOf (fun (i _ : Nat) => SC.val (Go.Value.int Go.IntKind.u8 (ldB x4 x5 x6 (loTk x1 xa xb xs ya yb ys) x7 (loTo x1 xa xb xs) x8 x9 (loSy x1 xb yb) (kOf (u8F fun (i _ : Nat) => cuF xs i)) x10 x3 (kOf (u8F (loKk xa xb (nOf (rawF K A B s) 1) (nOf (rawF K A B s) 2)))) i))) i 0; let x14 : Nat := rY x12 fun (i : Nat) => kOf (fun (i _ : Nat) => SC.val (Go.Value.int Go.IntKind.u8 (ldB x4 x5 x6 (loTk x1 xa xb xs ya yb ys) x7 (loTo x1 xa xb xs) x8 x9 (loSy x1 xb yb) (kOf (u8F fun (i _ : Nat) => cuF xs i)) x10 x3 (kOf (u8F (loKk xa xb (nOf (rawF K A B s) 1) (nOf (rawF K A B s) 2)))) i))) i 0; let x15 : Int := (↑x12 : Int); let x16 : Int := Go.IntKind.i64.wrap (x15 - (↑x2 : Int)); let x17 : Int := if (1 : Int) > x16 then (1 : Int) else x16; let x18 : Int := at_ % x17; let x19 : Nat := x18.toNat; let x20 : Nat := rM x19 fun (i : Nat) => kOf (fun (i _ : Nat) => SC.val (Go.Value.int Go.IntKind.u8 (ldB x4 x5 x6 (loTk x1 xa xb xs ya yb ys) x7 (loTo x1 xa xb xs) x8 x9 (loSy x1 xb yb) (kOf (u8F fun (i _ : Nat) => cuF xs i)) x10 x3 (kOf (u8F (loKk xa xb (nOf (rawF K A B s) 1) (nOf (rawF K A B s) 2)))) i))) i 0; let x21 : Nat := rY x19 fun (i : Nat) => kOf (fun (i _ : Nat) => SC.val (Go.Value.int Go.IntKind.u8 (ldB x4 x5 x6 (loTk x1 xa xb xs ya yb ys) x7 (loTo x1 xa xb xs) x8 x9 (loSy x1 xb yb) (kOf (u8F fun (i _ : Nat) => cuF xs i)) x10 x3 (kOf (u8F (loKk xa xb (nOf (rawF K A B s) 1) (nOf (rawF K A B s) 2)))) i))) i 0; let x22 : Bool := x11 == (0 : Int); let x23 : Bool := x22 && x22; let x24 : Int := rKd x12 fun (i : Nat) => kOf (fun (i _ : Nat) => SC.val (Go.Value.int Go.IntKind.u8 (ldB x4 x5 x6 (loTk x1 xa xb xs ya yb ys) x7 (loTo x1 xa xb xs) x8 x9 (loSy x1 xb yb) (kOf (u8F fun (i _ : Nat) => cuF xs i)) x10 x3 (kOf (u8F (loKk xa xb (nOf (rawF K A B s) 1) (nOf (rawF K A B s) 2)))) i))) i 0; let x25 : Nat := rAm x12 fun (i : Nat) => kOf (fun (i _ : Nat) => SC.val (Go.Value.int Go.IntKind.u8 (ldB x4 x5 x6 (loTk x1 xa xb xs ya yb ys) x7 (loTo x1 xa xb xs) x8 x9 (loSy x1 xb yb) (kOf (u8F fun (i _ : Nat) => cuF xs i)) x10 x3 (kOf (u8F (loKk xa xb (nOf (rawF K A B s) 1) (nOf (rawF K A B s) 2)))) i))) i 0; let x26 : Nat := rFe x12 fun (i : Nat) => kOf (fun (i _ : Nat) => SC.val (Go.Value.int Go.IntKind.u8 (ldB x4 x5 x6 (loTk x1 xa xb xs ya yb ys) x7 (loTo x1 xa xb xs) x8 x9 (loSy x1 xb yb) (kOf (u8F fun (i _ : Nat) => cuF xs i)) x10 x3 (kOf (u8F (loKk xa xb (nOf (rawF K A B s) 1) (nOf (rawF K A B s) 2)))) i))) i 0; let x27 : Int := rHm x12 fun (i : Nat) => kOf (fun (i _ : Nat) => SC.val (Go.Value.int Go.IntKind.u8 (ldB x4 x5 x6 (loTk x1 xa xb xs ya yb ys) x7 (loTo x1 xa xb xs) x8 x9 (loSy x1 xb yb) (kOf (u8F fun (i _ : Nat) => cuF xs i)) x10 x3 (kOf (u8F (loKk xa xb (nOf (rawF K A B s) 1) (nOf (rawF K A B s) 2)))) i))) i 0; let x28 : Int := rTc x12 fun (i : Nat) => kOf (fun (i _ : Nat) => SC.val (Go.Value.int Go.IntKind.u8 (ldB x4 x5 x6 (loTk x1 xa xb xs ya yb ys) x7 (loTo x1 xa xb xs) x8 x9 (loSy x1 xb yb) (kOf (u8F fun (i _ : Nat) => cuF xs i)) x10 x3 (kOf (u8F (loKk xa xb (nOf (rawF K A B s) 1) (nOf (rawF K A B s) 2)))) i))) i 0; let x29 : Int := rDc x12 fun (i : Nat) => kOf (fun (i _ : Nat) => SC.val (Go.Value.int Go.IntKind.u8 (ldB x4 x5 x6 (loTk x1 xa xb xs ya yb ys) x7 (loTo x1 xa xb xs) x8 x9 (loSy x1 xb yb) (kOf (u8F fun (i _ : Nat) => cuF xs i)) x10 x3 (kOf (u8F (loKk xa xb (nOf (rawF K A B s) 1) (nOf (rawF K A B s) 2)))) i))) i 0; let x30 : Int := rIx x12 fun (i : Nat) => kOf (fun (i _ : Nat) => SC.val (Go.Value.int Go.IntKind.u8 (ldB x4 x5 x6 (loTk x1 xa xb xs ya yb ys) x7 (loTo x1 xa xb xs) x8 x9 (loSy x1 xb yb) (kOf (u8F fun (i _ : Nat) => cuF xs i)) x10 x3 (kOf (u8F (loKk xa xb (nOf (rawF K A B s) 1) (nOf (rawF K A B s) 2)))) i))) i 0; k = k ∧ xk = xk ∧ xa = xa ∧ xb = xb ∧ xs = xs ∧ yk = yk ∧ ya = ya ∧ yb = yb ∧ ys = ys ∧ a = a ∧ n = n ∧ cap = cap ∧ (∀ (i : Nat), i < n → K i = K i ∧ A i = A i ∧ B i = B i ∧ s i = s i) ∧ loP a n (rawF K A B s) k xk xa xb yk ya yb xs ys ∧ ∀ (a : Option Go.Addr) (cap : Nat), (a = Option.none → x2 = 0 ∧ cap = 0) → x2 ≤ cap → ∀ (a_3 : Option Go.Addr) (cap_1 : Nat), (a_3 = Option.none → x3 = 0 ∧ cap_1 = 0) → x3 ≤ cap_1 → x4 = x4 ∧ x5 = x5 ∧ x6 = x6 ∧ (∀ (j : Nat), j < 32 → loTk x1 xa xb xs ya yb ys j = loTk x1 xa xb xs ya yb ys j) ∧ x7 = x7 ∧ (∀ (j : Nat), j < 32 → loTo x1 xa xb xs j = loTo x1 xa xb xs j) ∧ x8 = x8 ∧ x9 = x9 ∧ loSy x1 xb yb = loSy x1 xb yb ∧ a = a ∧ x2 = x2 ∧ cap = cap ∧ (∀ (i : Nat), i < x2 → cuF xs i = cuF xs i) ∧ x10 = x10 ∧ a_3 = a_3 ∧ x3 = x3 ∧ cap_1 = cap_1 ∧ (∀ (i : Nat), i < x3 → loKk xa xb (nOf (rawF K A B s) 1) (nOf (rawF K A B s) 2) i 0 = loKk xa xb (nOf (rawF K A B s) 1) (nOf (rawF K A B s) 2) i 0 ∧ loKk xa xb (nOf (rawF K A B s) 1) (nOf (rawF K A B s) 2) i 1 = loKk xa xb (nOf (rawF K A B s) 1) (nOf (rawF K A B s) 2) i 1 ∧ loKk xa xb (nOf (rawF K A B s) 1) (nOf (rawF K A B s) 2) i 2 = loKk xa xb (nOf (rawF K A B s) 1) (nOf (rawF K A B s) 2) i 2 ∧ loKk xa xb (nOf (rawF K A B s) 1) (nOf (rawF K A B s) 2) i 3 = loKk xa xb (nOf (rawF K A B s) 1) (nOf (rawF K A B s) 2) i 3 ∧ loKk xa xb (nOf (rawF K A B s) 1) (nOf (rawF K A B s) 2) i 4 = loKk xa xb (nOf (rawF K A B s) 1) (nOf (rawF K A B s) 2) i 4 ∧ loKk xa xb (nOf (rawF K A B s) 1) (nOf (rawF K A B s) 2) i 5 = loKk xa xb (nOf (rawF K A B s) 1) (nOf (rawF K A B s) 2) i 5 ∧ loKk xa xb (nOf (rawF K A B s) 1) (nOf (rawF K A B s) 2) i 6 = loKk xa xb (nOf (rawF K A B s) 1) (nOf (rawF K A B s) 2) i 6 ∧ loKk xa xb (nOf (rawF K A B s) 1) (nOf (rawF K A B s) 2) i 7 = loKk xa xb (nOf (rawF K A B s) 1) (nOf (rawF K A B s) 2) i 7 ∧ loKk xa xb (nOf (rawF K A B s) 1) (nOf (rawF K A B s) 2) i 8 = loKk xa xb (nOf (rawF K A B s) 1) (nOf (rawF K A B s) 2) i 8 ∧ loKk xa xb (nOf (rawF K A B s) 1) (nOf (rawF K A B s) 2) i 9 = loKk xa xb (nOf (rawF K A B s) 1) (nOf (rawF K A B s) 2) i 9 ∧ loKk xa xb (nOf (rawF K A B s) 1) (nOf (rawF K A B s) 2) i 10 = loKk xa xb (nOf (rawF K A B s) 1) (nOf (rawF K A B s) 2) i 10 ∧ loKk xa xb (nOf (rawF K A B s) 1) (nOf (rawF K A B s) 2) i 11 = loKk xa xb (nOf (rawF K A B s) 1) (nOf (rawF K A B s) 2) i 11 ∧ loKk xa xb (nOf (rawF K A B s) 1) (nOf (rawF K A B s) 2) i 12 = loKk xa xb (nOf (rawF K A B s) 1) (nOf (rawF K A B s) 2) i 12 ∧ loKk xa xb (nOf (rawF K A B s) 1) (nOf (rawF K A B s) 2) i 13 = loKk xa xb (nOf (rawF K A B s) 1) (nOf (rawF K A B s) 2) i 13 ∧ loKk xa xb (nOf (rawF K A B s) 1) (nOf (rawF K A B s) 2) i 14 = loKk xa xb (nOf (rawF K A B s) 1) (nOf (rawF K A B s) 2) i 14 ∧ loKk xa xb (nOf (rawF K A B s) 1) (nOf (rawF K A B s) 2) i 15 = loKk xa xb (nOf (rawF K A B s) 1) (nOf (rawF K A B s) 2) i 15 ∧ loKk xa xb (nOf (rawF K A B s) 1) (nOf (rawF K A B s) 2) i 16 = loKk xa xb (nOf (rawF K A B s) 1) (nOf (rawF K A B s) 2) i 16 ∧ loKk xa xb (nOf (rawF K A B s) 1) (nOf (rawF K A B s) 2) i 17 = loKk xa xb (nOf (rawF K A B s) 1) (nOf (rawF K A B s) 2) i 17 ∧ loKk xa xb (nOf (rawF K A B s) 1) (nOf (rawF K A B s) 2) i 18 = loKk xa xb (nOf (rawF K A B s) 1) (nOf (rawF K A B s) 2) i 18 ∧ loKk xa xb (nOf (rawF K A B s) 1) (nOf (rawF K A B s) 2) i 19 = loKk xa xb (nOf (rawF K A B s) 1) (nOf (rawF K A B s) 2) i 19) ∧ ldQ (loSy x1 xb yb) a x2 (u8F fun (i _ : Nat) => cuF xs i) a_3 x3 (u8F (loKk xa xb (nOf (rawF K A B s) 1) (nOf (rawF K A B s) 2))) ∧ ∀ (a_6 : Option Go.Addr) (cap_2 : Nat), (a_6 = Option.none → x12 = 0 ∧ cap_2 = 0) → x12 ≤ cap_2 → a_6 = a_6 ∧ x12 = x12 ∧ cap_2 = cap_2 ∧ (∀ (i : Nat), i < x12 → ldB x4 x5 x6 (loTk x1 xa xb xs ya yb ys) x7 (loTo x1 xa xb xs) x8 x9 (loSy x1 xb yb) (kOf (u8F fun (i _ : Nat) => cuF xs i)) x10 x3 (kOf (u8F (loKk xa xb (nOf (rawF K A B s) 1) (nOf (rawF K A B s) 2)))) i = ldB x4 x5 x6 (loTk x1 xa xb xs ya yb ys) x7 (loTo x1 xa xb xs) x8 x9 (loSy x1 xb yb) (kOf (u8F fun (i _ : Nat) => cuF xs i)) x10 x3 (kOf (u8F (loKk xa xb (nOf (rawF K A B s) 1) (nOf (rawF K A B s) 2)))) i) ∧ (rdP a_6 x12 fun (i _ : Nat) => SC.val (Go.Value.int Go.IntKind.u8 (ldB x4 x5 x6 (loTk x1 xa xb xs ya yb ys) x7 (loTo x1 xa xb xs) x8 x9 (loSy x1 xb yb) (kOf (u8F fun (i _ : Nat) => cuF xs i)) x10 x3 (kOf (u8F (loKk xa xb (nOf (rawF K A B s) 1) (nOf (rawF K A B s) 2)))) i))) ∧ ∀ (a_9 : Option Go.Addr) (cap_3 : Nat), (a_9 = Option.none → x13 = 0 ∧ cap_3 = 0) → x13 ≤ cap_3 → ∀ (a_12 : Option Go.Addr) (cap_4 : Nat), (a_12 = Option.none → x14 = 0 ∧ cap_4 = 0) → x14 ≤ cap_4 → ((-9223372036854775808 : Int) ≤ at_ ∧ at_ ≤ (9223372036854775807 : Int)) ∧ ((0 : Int) < x17 ∧ x17 ≤ (1099511627776 : Int)) ∧ ((0 : Int) ≤ x18 ∧ x18 ≤ x15) ∧ a_6 = a_6 ∧ x19 = x19 ∧ cap_2 = cap_2 ∧ (∀ (i : Nat), i < x19 → ldB x4 x5 x6 (loTk x1 xa xb xs ya yb ys) x7 (loTo x1 xa xb xs) x8 x9 (loSy x1 xb yb) (kOf (u8F fun (i _ : Nat) => cuF xs i)) x10 x3 (kOf (u8F (loKk xa xb (nOf (rawF K A B s) 1) (nOf (rawF K A B s) 2)))) i = ldB x4 x5 x6 (loTk x1 xa xb xs ya yb ys) x7 (loTo x1 xa xb xs) x8 x9 (loSy x1 xb yb) (kOf (u8F fun (i _ : Nat) => cuF xs i)) x10 x3 (kOf (u8F (loKk xa xb (nOf (rawF K A B s) 1) (nOf (rawF K A B s) 2)))) i) ∧ (rdP a_6 x19 fun (i _ : Nat) => SC.val (Go.Value.int Go.IntKind.u8 (ldB x4 x5 x6 (loTk x1 xa xb xs ya yb ys) x7 (loTo x1 xa xb xs) x8 x9 (loSy x1 xb yb) (kOf (u8F fun (i _ : Nat) => cuF xs i)) x10 x3 (kOf (u8F (loKk xa xb (nOf (rawF K A B s) 1) (nOf (rawF K A B s) 2)))) i))) ∧ ∀ (a_15 : Option Go.Addr) (cap_5 : Nat), (a_15 = Option.none → x20 = 0 ∧ cap_5 = 0) → x20 ≤ cap_5 → ∀ (a_18 : Option Go.Addr) (cap_6 : Nat), (a_18 = Option.none → x21 = 0 ∧ cap_6 = 0) → x21 ≤ cap_6 → x4 = x4 ∧ x5 = x5 ∧ x6 = x6 ∧ (∀ (j : Nat), j < 32 → loTk x1 xa xb xs ya yb ys j = loTk x1 xa xb xs ya yb ys j) ∧ x7 = x7 ∧ (∀ (j : Nat), j < 32 → loTo x1 xa xb xs j = loTo x1 xa xb xs j) ∧ x8 = x8 ∧ x9 = x9 ∧ loSy x1 xb yb = loSy x1 xb yb ∧ a = a ∧ x2 = x2 ∧ cap = cap ∧ (∀ (i : Nat), i < x2 → cuF xs i = cuF xs i) ∧ x10 = x10 ∧ a_3 = a_3 ∧ x3 = x3 ∧ cap_1 = cap_1 ∧ (∀ (i : Nat), i < x3 → loKk xa xb (nOf (rawF K A B s) 1) (nOf (rawF K A B s) 2) i 0 = loKk xa xb (nOf (rawF K A B s) 1) (nOf (rawF K A B s) 2) i 0 ∧ loKk xa xb (nOf (rawF K A B s) 1) (nOf (rawF K A B s) 2) i 1 = loKk xa xb (nOf (rawF K A B s) 1) (nOf (rawF K A B s) 2) i 1 ∧ loKk xa xb (nOf (rawF K A B s) 1) (nOf (rawF K A B s) 2) i 2 = loKk xa xb (nOf (rawF K A B s) 1) (nOf (rawF K A B s) 2) i 2 ∧ loKk xa xb (nOf (rawF K A B s) 1) (nOf (rawF K A B s) 2) i 3 = loKk xa xb (nOf (rawF K A B s) 1) (nOf (rawF K A B s) 2) i 3 ∧ loKk xa xb (nOf (rawF K A B s) 1) (nOf (rawF K A B s) 2) i 4 = loKk xa xb (nOf (rawF K A B s) 1) (nOf (rawF K A B s) 2) i 4 ∧ loKk xa xb (nOf (rawF K A B s) 1) (nOf (rawF K A B s) 2) i 5 = loKk xa xb (nOf (rawF K A B s) 1) (nOf (rawF K A B s) 2) i 5 ∧ loKk xa xb (nOf (rawF K A B s) 1) (nOf (rawF K A B s) 2) i 6 = loKk xa xb (nOf (rawF K A B s) 1) (nOf (rawF K A B s) 2) i 6 ∧ loKk xa xb (nOf (rawF K A B s) 1) (nOf (rawF K A B s) 2) i 7 = loKk xa xb (nOf (rawF K A B s) 1) (nOf (rawF K A B s) 2) i 7 ∧ loKk xa xb (nOf (rawF K A B s) 1) (nOf (rawF K A B s) 2) i 8 = loKk xa xb (nOf (rawF K A B s) 1) (nOf (rawF K A B s) 2) i 8 ∧ loKk xa xb (nOf (rawF K A B s) 1) (nOf (rawF K A B s) 2) i 9 = loKk xa xb (nOf (rawF K A B s) 1) (nOf (rawF K A B s) 2) i 9 ∧ loKk xa xb (nOf (rawF K A B s) 1) (nOf (rawF K A B s) 2) i 10 = loKk xa xb (nOf (rawF K A B s) 1) (nOf (rawF K A B s) 2) i 10 ∧ loKk xa xb (nOf (rawF K A B s) 1) (nOf (rawF K A B s) 2) i 11 = loKk xa xb (nOf (rawF K A B s) 1) (nOf (rawF K A B s) 2) i 11 ∧ loKk xa xb (nOf (rawF K A B s) 1) (nOf (rawF K A B s) 2) i 12 = loKk xa xb (nOf (rawF K A B s) 1) (nOf (rawF K A B s) 2) i 12 ∧ loKk xa xb (nOf (rawF K A B s) 1) (nOf (rawF K A B s) 2) i 13 = loKk xa xb (nOf (rawF K A B s) 1) (nOf (rawF K A B s) 2) i 13 ∧ loKk xa xb (nOf (rawF K A B s) 1) (nOf (rawF K A B s) 2) i 14 = loKk xa xb (nOf (rawF K A B s) 1) (nOf (rawF K A B s) 2) i 14 ∧ loKk xa xb (nOf (rawF K A B s) 1) (nOf (rawF K A B s) 2) i 15 = loKk xa xb (nOf (rawF K A B s) 1) (nOf (rawF K A B s) 2) i 15 ∧ loKk xa xb (nOf (rawF K A B s) 1) (nOf (rawF K A B s) 2) i 16 = loKk xa xb (nOf (rawF K A B s) 1) (nOf (rawF K A B s) 2) i 16 ∧ loKk xa xb (nOf (rawF K A B s) 1) (nOf (rawF K A B s) 2) i 17 = loKk xa xb (nOf (rawF K A B s) 1) (nOf (rawF K A B s) 2) i 17 ∧ loKk xa xb (nOf (rawF K A B s) 1) (nOf (rawF K A B s) 2) i 18 = loKk xa xb (nOf (rawF K A B s) 1) (nOf (rawF K A B s) 2) i 18 ∧ loKk xa xb (nOf (rawF K A B s) 1) (nOf (rawF K A B s) 2) i 19 = loKk xa xb (nOf (rawF K A B s) 1) (nOf (rawF K A B s) 2) i 19) ∧ ldQ (loSy x1 xb yb) a x2 (u8F fun (i _ : Nat) => cuF xs i) a_3 x3 (u8F (loKk xa xb (nOf (rawF K A B s) 1) (nOf (rawF K A B s) 2))) ∧ (x22 = Bool.true → x22 = Bool.true) ∧ (x22 = Bool.true → x22 = Bool.true) ∧ (x23 = Bool.true → x23 = Bool.true) ∧ (x23 = Bool.true → x23 = Bool.true) ∧ ((x23 && (rdE x12 fun (i : Nat) => kOf (fun (i _ : Nat) => SC.val (Go.Value.int Go.IntKind.u8 (ldB x4 x5 x6 (loTk x1 xa xb xs ya yb ys) x7 (loTo x1 xa xb xs) x8 x9 (loSy x1 xb yb) (kOf (u8F fun (i _ : Nat) => cuF xs i)) x10 x3 (kOf (u8F (loKk xa xb (nOf (rawF K A B s) 1) (nOf (rawF K A B s) 2)))) i))) i 0) == (0 : Int)) = Bool.true → (x23 && (rdE x12 fun (i : Nat) => kOf (fun (i _ : Nat) => SC.val (Go.Value.int Go.IntKind.u8 (ldB x4 x5 x6 (loTk x1 xa xb xs ya yb ys) x7 (loTo x1 xa xb xs) x8 x9 (loSy x1 xb yb) (kOf (u8F fun (i _ : Nat) => cuF xs i)) x10 x3 (kOf (u8F (loKk xa xb (nOf (rawF K A B s) 1) (nOf (rawF K A B s) 2)))) i))) i 0) == (0 : Int)) = Bool.true ∧ (x23 && (rdE x12 fun (i : Nat) => kOf (fun (i _ : Nat) => SC.val (Go.Value.int Go.IntKind.u8 (ldB x4 x5 x6 (loTk x1 xa xb xs ya yb ys) x7 (loTo x1 xa xb xs) x8 x9 (loSy x1 xb yb) (kOf (u8F fun (i _ : Nat) => cuF xs i)) x10 x3 (kOf (u8F (loKk xa xb (nOf (rawF K A B s) 1) (nOf (rawF K A B s) 2)))) i))) i 0) == (0 : Int)) = Bool.true ∧ x4 = x4 ∧ x5 = x5 ∧ x6 = x6 ∧ (∀ (j : Nat), j < 32 → loTk x1 xa xb xs ya yb ys j = loTk x1 xa xb xs ya yb ys j) ∧ x7 = x7 ∧ (∀ (j : Nat), j < 32 → loTo x1 xa xb xs j = loTo x1 xa xb xs j) ∧ x8 = x8 ∧ x9 = x9 ∧ loSy x1 xb yb = loSy x1 xb yb ∧ a = a ∧ x2 = x2 ∧ cap = cap ∧ (∀ (i : Nat), i < x2 → cuF xs i = cuF xs i) ∧ x10 = x10 ∧ a_3 = a_3 ∧ x3 = x3 ∧ cap_1 = cap_1 ∧ (∀ (i : Nat), i < x3 → loKk xa xb (nOf (rawF K A B s) 1) (nOf (rawF K A B s) 2) i 0 = loKk xa xb (nOf (rawF K A B s) 1) (nOf (rawF K A B s) 2) i 0 ∧ loKk xa xb (nOf (rawF K A B s) 1) (nOf (rawF K A B s) 2) i 1 = loKk xa xb (nOf (rawF K A B s) 1) (nOf (rawF K A B s) 2) i 1 ∧ loKk xa xb (nOf (rawF K A B s) 1) (nOf (rawF K A B s) 2) i 2 = loKk xa xb (nOf (rawF K A B s) 1) (nOf (rawF K A B s) 2) i 2 ∧ loKk xa xb (nOf (rawF K A B s) 1) (nOf (rawF K A B s) 2) i 3 = loKk xa xb (nOf (rawF K A B s) 1) (nOf (rawF K A B s) 2) i 3 ∧ loKk xa xb (nOf (rawF K A B s) 1) (nOf (rawF K A B s) 2) i 4 = loKk xa xb (nOf (rawF K A B s) 1) (nOf (rawF K A B s) 2) i 4 ∧ loKk xa xb (nOf (rawF K A B s) 1) (nOf (rawF K A B s) 2) i 5 = loKk xa xb (nOf (rawF K A B s) 1) (nOf (rawF K A B s) 2) i 5 ∧ loKk xa xb (nOf (rawF K A B s) 1) (nOf (rawF K A B s) 2) i 6 = loKk xa xb (nOf (rawF K A B s) 1) (nOf (rawF K A B s) 2) i 6 ∧ loKk xa xb (nOf (rawF K A B s) 1) (nOf (rawF K A B s) 2) i 7 = loKk xa xb (nOf (rawF K A B s) 1) (nOf (rawF K A B s) 2) i 7 ∧ loKk xa xb (nOf (rawF K A B s) 1) (nOf (rawF K A B s) 2) i 8 = loKk xa xb (nOf (rawF K A B s) 1) (nOf (rawF K A B s) 2) i 8 ∧ loKk xa xb (nOf (rawF K A B s) 1) (nOf (rawF K A B s) 2) i 9 = loKk xa xb (nOf (rawF K A B s) 1) (nOf (rawF K A B s) 2) i 9 ∧ loKk xa xb (nOf (rawF K A B s) 1) (nOf (rawF K A B s) 2) i 10 = loKk xa xb (nOf (rawF K A B s) 1) (nOf (rawF K A B s) 2) i 10 ∧ loKk xa xb (nOf (rawF K A B s) 1) (nOf (rawF K A B s) 2) i 11 = loKk xa xb (nOf (rawF K A B s) 1) (nOf (rawF K A B s) 2) i 11 ∧ loKk xa xb (nOf (rawF K A B s) 1) (nOf (rawF K A B s) 2) i 12 = loKk xa xb (nOf (rawF K A B s) 1) (nOf (rawF K A B s) 2) i 12 ∧ loKk xa xb (nOf (rawF K A B s) 1) (nOf (rawF K A B s) 2) i 13 = loKk xa xb (nOf (rawF K A B s) 1) (nOf (rawF K A B s) 2) i 13 ∧ loKk xa xb (nOf (rawF K A B s) 1) (nOf (rawF K A B s) 2) i 14 = loKk xa xb (nOf (rawF K A B s) 1) (nOf (rawF K A B s) 2) i 14 ∧ loKk xa xb (nOf (rawF K A B s) 1) (nOf (rawF K A B s) 2) i 15 = loKk xa xb (nOf (rawF K A B s) 1) (nOf (rawF K A B s) 2) i 15 ∧ loKk xa xb (nOf (rawF K A B s) 1) (nOf (rawF K A B s) 2) i 16 = loKk xa xb (nOf (rawF K A B s) 1) (nOf (rawF K A B s) 2) i 16 ∧ loKk xa xb (nOf (rawF K A B s) 1) (nOf (rawF K A B s) 2) i 17 = loKk xa xb (nOf (rawF K A B s) 1) (nOf (rawF K A B s) 2) i 17 ∧ loKk xa xb (nOf (rawF K A B s) 1) (nOf (rawF K A B s) 2) i 18 = loKk xa xb (nOf (rawF K A B s) 1) (nOf (rawF K A B s) 2) i 18 ∧ loKk xa xb (nOf (rawF K A B s) 1) (nOf (rawF K A B s) 2) i 19 = loKk xa xb (nOf (rawF K A B s) 1) (nOf (rawF K A B s) 2) i 19) ∧ x24 = x24 ∧ x25 = x25 ∧ x26 = x26 ∧ (∀ (j : Nat), j < 32 → rTk x12 (fun (i : Nat) => kOf (fun (i _ : Nat) => SC.val (Go.Value.int Go.IntKind.u8 (ldB x4 x5 x6 (loTk x1 xa xb xs ya yb ys) x7 (loTo x1 xa xb xs) x8 x9 (loSy x1 xb yb) (kOf (u8F fun (i _ : Nat) => cuF xs i)) x10 x3 (kOf (u8F (loKk xa xb (nOf (rawF K A B s) 1) (nOf (rawF K A B s) 2)))) i))) i 0) j = rTk x12 (fun (i : Nat) => kOf (fun (i _ : Nat) => SC.val (Go.Value.int Go.IntKind.u8 (ldB x4 x5 x6 (loTk x1 xa xb xs ya yb ys) x7 (loTo x1 xa xb xs) x8 x9 (loSy x1 xb yb) (kOf (u8F fun (i _ : Nat) => cuF xs i)) x10 x3 (kOf (u8F (loKk xa xb (nOf (rawF K A B s) 1) (nOf (rawF K A B s) 2)))) i))) i 0) j) ∧ x27 = x27 ∧ (∀ (j : Nat), j < 32 → rTo x12 (fun (i : Nat) => kOf (fun (i _ : Nat) => SC.val (Go.Value.int Go.IntKind.u8 (ldB x4 x5 x6 (loTk x1 xa xb xs ya yb ys) x7 (loTo x1 xa xb xs) x8 x9 (loSy x1 xb yb) (kOf (u8F fun (i _ : Nat) => cuF xs i)) x10 x3 (kOf (u8F (loKk xa xb (nOf (rawF K A B s) 1) (nOf (rawF K A B s) 2)))) i))) i 0) j = rTo x12 (fun (i : Nat) => kOf (fun (i _ : Nat) => SC.val (Go.Value.int Go.IntKind.u8 (ldB x4 x5 x6 (loTk x1 xa xb xs ya yb ys) x7 (loTo x1 xa xb xs) x8 x9 (loSy x1 xb yb) (kOf (u8F fun (i _ : Nat) => cuF xs i)) x10 x3 (kOf (u8F (loKk xa xb (nOf (rawF K A B s) 1) (nOf (rawF K A B s) 2)))) i))) i 0) j) ∧ x28 = x28 ∧ x29 = x29 ∧ ((rSy x12 fun (i : Nat) => kOf (fun (i _ : Nat) => SC.val (Go.Value.int Go.IntKind.u8 (ldB x4 x5 x6 (loTk x1 xa xb xs ya yb ys) x7 (loTo x1 xa xb xs) x8 x9 (loSy x1 xb yb) (kOf (u8F fun (i _ : Nat) => cuF xs i)) x10 x3 (kOf (u8F (loKk xa xb (nOf (rawF K A B s) 1) (nOf (rawF K A B s) 2)))) i))) i 0) = rSy x12 fun (i : Nat) => kOf (fun (i _ : Nat) => SC.val (Go.Value.int Go.IntKind.u8 (ldB x4 x5 x6 (loTk x1 xa xb xs ya yb ys) x7 (loTo x1 xa xb xs) x8 x9 (loSy x1 xb yb) (kOf (u8F fun (i _ : Nat) => cuF xs i)) x10 x3 (kOf (u8F (loKk xa xb (nOf (rawF K A B s) 1) (nOf (rawF K A B s) 2)))) i))) i 0) ∧ a_9 = a_9 ∧ x13 = x13 ∧ cap_3 = cap_3 ∧ (∀ (i : Nat), i < x13 → rDk (fun (i : Nat) => kOf (fun (i _ : Nat) => SC.val (Go.Value.int Go.IntKind.u8 (ldB x4 x5 x6 (loTk x1 xa xb xs ya yb ys) x7 (loTo x1 xa xb xs) x8 x9 (loSy x1 xb yb) (kOf (u8F fun (i _ : Nat) => cuF xs i)) x10 x3 (kOf (u8F (loKk xa xb (nOf (rawF K A B s) 1) (nOf (rawF K A B s) 2)))) i))) i 0) i 0 = rDk (fun (i : Nat) => kOf (fun (i _ : Nat) => SC.val (Go.Value.int Go.IntKind.u8 (ldB x4 x5 x6 (loTk x1 xa xb xs ya yb ys) x7 (loTo x1 xa xb xs) x8 x9 (loSy x1 xb yb) (kOf (u8F fun (i _ : Nat) => cuF xs i)) x10 x3 (kOf (u8F (loKk xa xb (nOf (rawF K A B s) 1) (nOf (rawF K A B s) 2)))) i))) i 0) i 0) ∧ x30 = x30 ∧ a_12 = a_12 ∧ x14 = x14 ∧ cap_4 = cap_4 ∧ (∀ (i : Nat), i < x14 → rKk x12 (fun (i : Nat) => kOf (fun (i _ : Nat) => SC.val (Go.Value.int Go.IntKind.u8 (ldB x4 x5 x6 (loTk x1 xa xb xs ya yb ys) x7 (loTo x1 xa xb xs) x8 x9 (loSy x1 xb yb) (kOf (u8F fun (i _ : Nat) => cuF xs i)) x10 x3 (kOf (u8F (loKk xa xb (nOf (rawF K A B s) 1) (nOf (rawF K A B s) 2)))) i))) i 0) i 0 = rKk x12 (fun (i : Nat) => kOf (fun (i _ : Nat) => SC.val (Go.Value.int Go.IntKind.u8 (ldB x4 x5 x6 (loTk x1 xa xb xs ya yb ys) x7 (loTo x1 xa xb xs) x8 x9 (loSy x1 xb yb) (kOf (u8F fun (i _ : Nat) => cuF xs i)) x10 x3 (kOf (u8F (loKk xa xb (nOf (rawF K A B s) 1) (nOf (rawF K A B s) 2)))) i))) i 0) i 0 ∧ rKk x12 (fun (i : Nat) => kOf (fun (i _ : Nat) => SC.val (Go.Value.int Go.IntKind.u8 (ldB x4 x5 x6 (loTk x1 xa xb xs ya yb ys) x7 (loTo x1 xa xb xs) x8 x9 (loSy x1 xb yb) (kOf (u8F fun (i _ : Nat) => cuF xs i)) x10 x3 (kOf (u8F (loKk xa xb (nOf (rawF K A B s) 1) (nOf (rawF K A B s) 2)))) i))) i 0) i 1 = rKk x12 (fun (i : Nat) => kOf (fun (i _ : Nat) => SC.val (Go.Value.int Go.IntKind.u8 (ldB x4 x5 x6 (loTk x1 xa xb xs ya yb ys) x7 (loTo x1 xa xb xs) x8 x9 (loSy x1 xb yb) (kOf (u8F fun (i _ : Nat) => cuF xs i)) x10 x3 (kOf (u8F (loKk xa xb (nOf (rawF K A B s) 1) (nOf (rawF K A B s) 2)))) i))) i 0) i 1 ∧ rKk x12 (fun (i : Nat) => kOf (fun (i _ : Nat) => SC.val (Go.Value.int Go.IntKind.u8 (ldB x4 x5 x6 (loTk x1 xa xb xs ya yb ys) x7 (loTo x1 xa xb xs) x8 x9 (loSy x1 xb yb) (kOf (u8F fun (i _ : Nat) => cuF xs i)) x10 x3 (kOf (u8F (loKk xa xb (nOf (rawF K A B s) 1) (nOf (rawF K A B s) 2)))) i))) i 0) i 2 = rKk x12 (fun (i : Nat) => kOf (fun (i _ : Nat) => SC.val (Go.Value.int Go.IntKind.u8 (ldB x4 x5 x6 (loTk x1 xa xb xs ya yb ys) x7 (loTo x1 xa xb xs) x8 x9 (loSy x1 xb yb) (kOf (u8F fun (i _ : Nat) => cuF xs i)) x10 x3 (kOf (u8F (loKk xa xb (nOf (rawF K A B s) 1) (nOf (rawF K A B s) 2)))) i))) i 0) i 2 ∧ rKk x12 (fun (i : Nat) => kOf (fun (i _ : Nat) => SC.val (Go.Value.int Go.IntKind.u8 (ldB x4 x5 x6 (loTk x1 xa xb xs ya yb ys) x7 (loTo x1 xa xb xs) x8 x9 (loSy x1 xb yb) (kOf (u8F fun (i _ : Nat) => cuF xs i)) x10 x3 (kOf (u8F (loKk xa xb (nOf (rawF K A B s) 1) (nOf (rawF K A B s) 2)))) i))) i 0) i 3 = rKk x12 (fun (i : Nat) => kOf (fun (i _ : Nat) => SC.val (Go.Value.int Go.IntKind.u8 (ldB x4 x5 x6 (loTk x1 xa xb xs ya yb ys) x7 (loTo x1 xa xb xs) x8 x9 (loSy x1 xb yb) (kOf (u8F fun (i _ : Nat) => cuF xs i)) x10 x3 (kOf (u8F (loKk xa xb (nOf (rawF K A B s) 1) (nOf (rawF K A B s) 2)))) i))) i 0) i 3 ∧ rKk x12 (fun (i : Nat) => kOf (fun (i _ : Nat) => SC.val (Go.Value.int Go.IntKind.u8 (ldB x4 x5 x6 (loTk x1 xa xb xs ya yb ys) x7 (loTo x1 xa xb xs) x8 x9 (loSy x1 xb yb) (kOf (u8F fun (i _ : Nat) => cuF xs i)) x10 x3 (kOf (u8F (loKk xa xb (nOf (rawF K A B s) 1) (nOf (rawF K A B s) 2)))) i))) i 0) i 4 = rKk x12 (fun (i : Nat) => kOf (fun (i _ : Nat) => SC.val (Go.Value.int Go.IntKind.u8 (ldB x4 x5 x6 (loTk x1 xa xb xs ya yb ys) x7 (loTo x1 xa xb xs) x8 x9 (loSy x1 xb yb) (kOf (u8F fun (i _ : Nat) => cuF xs i)) x10 x3 (kOf (u8F (loKk xa xb (nOf (rawF K A B s) 1) (nOf (rawF K A B s) 2)))) i))) i 0) i 4 ∧ rKk x12 (fun (i : Nat) => kOf (fun (i _ : Nat) => SC.val (Go.Value.int Go.IntKind.u8 (ldB x4 x5 x6 (loTk x1 xa xb xs ya yb ys) x7 (loTo x1 xa xb xs) x8 x9 (loSy x1 xb yb) (kOf (u8F fun (i _ : Nat) => cuF xs i)) x10 x3 (kOf (u8F (loKk xa xb (nOf (rawF K A B s) 1) (nOf (rawF K A B s) 2)))) i))) i 0) i 5 = rKk x12 (fun (i : Nat) => kOf (fun (i _ : Nat) => SC.val (Go.Value.int Go.IntKind.u8 (ldB x4 x5 x6 (loTk x1 xa xb xs ya yb ys) x7 (loTo x1 xa xb xs) x8 x9 (loSy x1 xb yb) (kOf (u8F fun (i _ : Nat) => cuF xs i)) x10 x3 (kOf (u8F (loKk xa xb (nOf (rawF K A B s) 1) (nOf (rawF K A B s) 2)))) i))) i 0) i 5 ∧ rKk x12 (fun (i : Nat) => kOf (fun (i _ : Nat) => SC.val (Go.Value.int Go.IntKind.u8 (ldB x4 x5 x6 (loTk x1 xa xb xs ya yb ys) x7 (loTo x1 xa xb xs) x8 x9 (loSy x1 xb yb) (kOf (u8F fun (i _ : Nat) => cuF xs i)) x10 x3 (kOf (u8F (loKk xa xb (nOf (rawF K A B s) 1) (nOf (rawF K A B s) 2)))) i))) i 0) i 6 = rKk x12 (fun (i : Nat) => kOf (fun (i _ : Nat) => SC.val (Go.Value.int Go.IntKind.u8 (ldB x4 x5 x6 (loTk x1 xa xb xs ya yb ys) x7 (loTo x1 xa xb xs) x8 x9 (loSy x1 xb yb) (kOf (u8F fun (i _ : Nat) => cuF xs i)) x10 x3 (kOf (u8F (loKk xa xb (nOf (rawF K A B s) 1) (nOf (rawF K A B s) 2)))) i))) i 0) i 6 ∧ rKk x12 (fun (i : Nat) => kOf (fun (i _ : Nat) => SC.val (Go.Value.int Go.IntKind.u8 (ldB x4 x5 x6 (loTk x1 xa xb xs ya yb ys) x7 (loTo x1 xa xb xs) x8 x9 (loSy x1 xb yb) (kOf (u8F fun (i _ : Nat) => cuF xs i)) x10 x3 (kOf (u8F (loKk xa xb (nOf (rawF K A B s) 1) (nOf (rawF K A B s) 2)))) i))) i 0) i 7 = rKk x12 (fun (i : Nat) => kOf (fun (i _ : Nat) => SC.val (Go.Value.int Go.IntKind.u8 (ldB x4 x5 x6 (loTk x1 xa xb xs ya yb ys) x7 (loTo x1 xa xb xs) x8 x9 (loSy x1 xb yb) (kOf (u8F fun (i _ : Nat) => cuF xs i)) x10 x3 (kOf (u8F (loKk xa xb (nOf (rawF K A B s) 1) (nOf (rawF K A B s) 2)))) i))) i 0) i 7 ∧ rKk x12 (fun (i : Nat) => kOf (fun (i _ : Nat) => SC.val (Go.Value.int Go.IntKind.u8 (ldB x4 x5 x6 (loTk x1 xa xb xs ya yb ys) x7 (loTo x1 xa xb xs) x8 x9 (loSy x1 xb yb) (kOf (u8F fun (i _ : Nat) => cuF xs i)) x10 x3 (kOf (u8F (loKk xa xb (nOf (rawF K A B s) 1) (nOf (rawF K A B s) 2)))) i))) i 0) i 8 = rKk x12 (fun (i : Nat) => kOf (fun (i _ : Nat) => SC.val (Go.Value.int Go.IntKind.u8 (ldB x4 x5 x6 (loTk x1 xa xb xs ya yb ys) x7 (loTo x1 xa xb xs) x8 x9 (loSy x1 xb yb) (kOf (u8F fun (i _ : Nat) => cuF xs i)) x10 x3 (kOf (u8F (loKk xa xb (nOf (rawF K A B s) 1) (nOf (rawF K A B s) 2)))) i))) i 0) i 8 ∧ rKk x12 (fun (i : Nat) => kOf (fun (i _ : Nat) => SC.val (Go.Value.int Go.IntKind.u8 (ldB x4 x5 x6 (loTk x1 xa xb xs ya yb ys) x7 (loTo x1 xa xb xs) x8 x9 (loSy x1 xb yb) (kOf (u8F fun (i _ : Nat) => cuF xs i)) x10 x3 (kOf (u8F (loKk xa xb (nOf (rawF K A B s) 1) (nOf (rawF K A B s) 2)))) i))) i 0) i 9 = rKk x12 (fun (i : Nat) => kOf (fun (i _ : Nat) => SC.val (Go.Value.int Go.IntKind.u8 (ldB x4 x5 x6 (loTk x1 xa xb xs ya yb ys) x7 (loTo x1 xa xb xs) x8 x9 (loSy x1 xb yb) (kOf (u8F fun (i _ : Nat) => cuF xs i)) x10 x3 (kOf (u8F (loKk xa xb (nOf (rawF K A B s) 1) (nOf (rawF K A B s) 2)))) i))) i 0) i 9 ∧ rKk x12 (fun (i : Nat) => kOf (fun (i _ : Nat) => SC.val (Go.Value.int Go.IntKind.u8 (ldB x4 x5 x6 (loTk x1 xa xb xs ya yb ys) x7 (loTo x1 xa xb xs) x8 x9 (loSy x1 xb yb) (kOf (u8F fun (i _ : Nat) => cuF xs i)) x10 x3 (kOf (u8F (loKk xa xb (nOf (rawF K A B s) 1) (nOf (rawF K A B s) 2)))) i))) i 0) i 10 = rKk x12 (fun (i : Nat) => kOf (fun (i _ : Nat) => SC.val (Go.Value.int Go.IntKind.u8 (ldB x4 x5 x6 (loTk x1 xa xb xs ya yb ys) x7 (loTo x1 xa xb xs) x8 x9 (loSy x1 xb yb) (kOf (u8F fun (i _ : Nat) => cuF xs i)) x10 x3 (kOf (u8F (loKk xa xb (nOf (rawF K A B s) 1) (nOf (rawF K A B s) 2)))) i))) i 0) i 10 ∧ rKk x12 (fun (i : Nat) => kOf (fun (i _ : Nat) => SC.val (Go.Value.int Go.IntKind.u8 (ldB x4 x5 x6 (loTk x1 xa xb xs ya yb ys) x7 (loTo x1 xa xb xs) x8 x9 (loSy x1 xb yb) (kOf (u8F fun (i _ : Nat) => cuF xs i)) x10 x3 (kOf (u8F (loKk xa xb (nOf (rawF K A B s) 1) (nOf (rawF K A B s) 2)))) i))) i 0) i 11 = rKk x12 (fun (i : Nat) => kOf (fun (i _ : Nat) => SC.val (Go.Value.int Go.IntKind.u8 (ldB x4 x5 x6 (loTk x1 xa xb xs ya yb ys) x7 (loTo x1 xa xb xs) x8 x9 (loSy x1 xb yb) (kOf (u8F fun (i _ : Nat) => cuF xs i)) x10 x3 (kOf (u8F (loKk xa xb (nOf (rawF K A B s) 1) (nOf (rawF K A B s) 2)))) i))) i 0) i 11 ∧ rKk x12 (fun (i : Nat) => kOf (fun (i _ : Nat) => SC.val (Go.Value.int Go.IntKind.u8 (ldB x4 x5 x6 (loTk x1 xa xb xs ya yb ys) x7 (loTo x1 xa xb xs) x8 x9 (loSy x1 xb yb) (kOf (u8F fun (i _ : Nat) => cuF xs i)) x10 x3 (kOf (u8F (loKk xa xb (nOf (rawF K A B s) 1) (nOf (rawF K A B s) 2)))) i))) i 0) i 12 = rKk x12 (fun (i : Nat) => kOf (fun (i _ : Nat) => SC.val (Go.Value.int Go.IntKind.u8 (ldB x4 x5 x6 (loTk x1 xa xb xs ya yb ys) x7 (loTo x1 xa xb xs) x8 x9 (loSy x1 xb yb) (kOf (u8F fun (i _ : Nat) => cuF xs i)) x10 x3 (kOf (u8F (loKk xa xb (nOf (rawF K A B s) 1) (nOf (rawF K A B s) 2)))) i))) i 0) i 12 ∧ rKk x12 (fun (i : Nat) => kOf (fun (i _ : Nat) => SC.val (Go.Value.int Go.IntKind.u8 (ldB x4 x5 x6 (loTk x1 xa xb xs ya yb ys) x7 (loTo x1 xa xb xs) x8 x9 (loSy x1 xb yb) (kOf (u8F fun (i _ : Nat) => cuF xs i)) x10 x3 (kOf (u8F (loKk xa xb (nOf (rawF K A B s) 1) (nOf (rawF K A B s) 2)))) i))) i 0) i 13 = rKk x12 (fun (i : Nat) => kOf (fun (i _ : Nat) => SC.val (Go.Value.int Go.IntKind.u8 (ldB x4 x5 x6 (loTk x1 xa xb xs ya yb ys) x7 (loTo x1 xa xb xs) x8 x9 (loSy x1 xb yb) (kOf (u8F fun (i _ : Nat) => cuF xs i)) x10 x3 (kOf (u8F (loKk xa xb (nOf (rawF K A B s) 1) (nOf (rawF K A B s) 2)))) i))) i 0) i 13 ∧ rKk x12 (fun (i : Nat) => kOf (fun (i _ : Nat) => SC.val (Go.Value.int Go.IntKind.u8 (ldB x4 x5 x6 (loTk x1 xa xb xs ya yb ys) x7 (loTo x1 xa xb xs) x8 x9 (loSy x1 xb yb) (kOf (u8F fun (i _ : Nat) => cuF xs i)) x10 x3 (kOf (u8F (loKk xa xb (nOf (rawF K A B s) 1) (nOf (rawF K A B s) 2)))) i))) i 0) i 14 = rKk x12 (fun (i : Nat) => kOf (fun (i _ : Nat) => SC.val (Go.Value.int Go.IntKind.u8 (ldB x4 x5 x6 (loTk x1 xa xb xs ya yb ys) x7 (loTo x1 xa xb xs) x8 x9 (loSy x1 xb yb) (kOf (u8F fun (i _ : Nat) => cuF xs i)) x10 x3 (kOf (u8F (loKk xa xb (nOf (rawF K A B s) 1) (nOf (rawF K A B s) 2)))) i))) i 0) i 14 ∧ rKk x12 (fun (i : Nat) => kOf (fun (i _ : Nat) => SC.val (Go.Value.int Go.IntKind.u8 (ldB x4 x5 x6 (loTk x1 xa xb xs ya yb ys) x7 (loTo x1 xa xb xs) x8 x9 (loSy x1 xb yb) (kOf (u8F fun (i _ : Nat) => cuF xs i)) x10 x3 (kOf (u8F (loKk xa xb (nOf (rawF K A B s) 1) (nOf (rawF K A B s) 2)))) i))) i 0) i 15 = rKk x12 (fun (i : Nat) => kOf (fun (i _ : Nat) => SC.val (Go.Value.int Go.IntKind.u8 (ldB x4 x5 x6 (loTk x1 xa xb xs ya yb ys) x7 (loTo x1 xa xb xs) x8 x9 (loSy x1 xb yb) (kOf (u8F fun (i _ : Nat) => cuF xs i)) x10 x3 (kOf (u8F (loKk xa xb (nOf (rawF K A B s) 1) (nOf (rawF K A B s) 2)))) i))) i 0) i 15 ∧ rKk x12 (fun (i : Nat) => kOf (fun (i _ : Nat) => SC.val (Go.Value.int Go.IntKind.u8 (ldB x4 x5 x6 (loTk x1 xa xb xs ya yb ys) x7 (loTo x1 xa xb xs) x8 x9 (loSy x1 xb yb) (kOf (u8F fun (i _ : Nat) => cuF xs i)) x10 x3 (kOf (u8F (loKk xa xb (nOf (rawF K A B s) 1) (nOf (rawF K A B s) 2)))) i))) i 0) i 16 = rKk x12 (fun (i : Nat) => kOf (fun (i _ : Nat) => SC.val (Go.Value.int Go.IntKind.u8 (ldB x4 x5 x6 (loTk x1 xa xb xs ya yb ys) x7 (loTo x1 xa xb xs) x8 x9 (loSy x1 xb yb) (kOf (u8F fun (i _ : Nat) => cuF xs i)) x10 x3 (kOf (u8F (loKk xa xb (nOf (rawF K A B s) 1) (nOf (rawF K A B s) 2)))) i))) i 0) i 16 ∧ rKk x12 (fun (i : Nat) => kOf (fun (i _ : Nat) => SC.val (Go.Value.int Go.IntKind.u8 (ldB x4 x5 x6 (loTk x1 xa xb xs ya yb ys) x7 (loTo x1 xa xb xs) x8 x9 (loSy x1 xb yb) (kOf (u8F fun (i _ : Nat) => cuF xs i)) x10 x3 (kOf (u8F (loKk xa xb (nOf (rawF K A B s) 1) (nOf (rawF K A B s) 2)))) i))) i 0) i 17 = rKk x12 (fun (i : Nat) => kOf (fun (i _ : Nat) => SC.val (Go.Value.int Go.IntKind.u8 (ldB x4 x5 x6 (loTk x1 xa xb xs ya yb ys) x7 (loTo x1 xa xb xs) x8 x9 (loSy x1 xb yb) (kOf (u8F fun (i _ : Nat) => cuF xs i)) x10 x3 (kOf (u8F (loKk xa xb (nOf (rawF K A B s) 1) (nOf (rawF K A B s) 2)))) i))) i 0) i 17 ∧ rKk x12 (fun (i : Nat) => kOf (fun (i _ : Nat) => SC.val (Go.Value.int Go.IntKind.u8 (ldB x4 x5 x6 (loTk x1 xa xb xs ya yb ys) x7 (loTo x1 xa xb xs) x8 x9 (loSy x1 xb yb) (kOf (u8F fun (i _ : Nat) => cuF xs i)) x10 x3 (kOf (u8F (loKk xa xb (nOf (rawF K A B s) 1) (nOf (rawF K A B s) 2)))) i))) i 0) i 18 = rKk x12 (fun (i : Nat) => kOf (fun (i _ : Nat) => SC.val (Go.Value.int Go.IntKind.u8 (ldB x4 x5 x6 (loTk x1 xa xb xs ya yb ys) x7 (loTo x1 xa xb xs) x8 x9 (loSy x1 xb yb) (kOf (u8F fun (i _ : Nat) => cuF xs i)) x10 x3 (kOf (u8F (loKk xa xb (nOf (rawF K A B s) 1) (nOf (rawF K A B s) 2)))) i))) i 0) i 18 ∧ rKk x12 (fun (i : Nat) => kOf (fun (i _ : Nat) => SC.val (Go.Value.int Go.IntKind.u8 (ldB x4 x5 x6 (loTk x1 xa xb xs ya yb ys) x7 (loTo x1 xa xb xs) x8 x9 (loSy x1 xb yb) (kOf (u8F fun (i _ : Nat) => cuF xs i)) x10 x3 (kOf (u8F (loKk xa xb (nOf (rawF K A B s) 1) (nOf (rawF K A B s) 2)))) i))) i 0) i 19 = rKk x12 (fun (i : Nat) => kOf (fun (i _ : Nat) => SC.val (Go.Value.int Go.IntKind.u8 (ldB x4 x5 x6 (loTk x1 xa xb xs ya yb ys) x7 (loTo x1 xa xb xs) x8 x9 (loSy x1 xb yb) (kOf (u8F fun (i _ : Nat) => cuF xs i)) x10 x3 (kOf (u8F (loKk xa xb (nOf (rawF K A B s) 1) (nOf (rawF K A B s) 2)))) i))) i 0) i 19) ∧ slP x4 x5 x6 (loTk x1 xa xb xs ya yb ys) x7 (loTo x1 xa xb xs) x8 x9 (loSy x1 xb yb) x2 (u8F fun (i _ : Nat) => cuF xs i) x10 x3 (u8F (loKk xa xb (nOf (rawF K A B s) 1) (nOf (rawF K A B s) 2))) x24 x25 x26 (rTk x12 fun (i : Nat) => kOf (fun (i _ : Nat) => SC.val (Go.Value.int Go.IntKind.u8 (ldB x4 x5 x6 (loTk x1 xa xb xs ya yb ys) x7 (loTo x1 xa xb xs) x8 x9 (loSy x1 xb yb) (kOf (u8F fun (i _ : Nat) => cuF xs i)) x10 x3 (kOf (u8F (loKk xa xb (nOf (rawF K A B s) 1) (nOf (rawF K A B s) 2)))) i))) i 0) x27 (rTo x12 fun (i : Nat) => kOf (fun (i _ : Nat) => SC.val (Go.Value.int Go.IntKind.u8 (ldB x4 x5 x6 (loTk x1 xa xb xs ya yb ys) x7 (loTo x1 xa xb xs) x8 x9 (loSy x1 xb yb) (kOf (u8F fun (i _ : Nat) => cuF xs i)) x10 x3 (kOf (u8F (loKk xa xb (nOf (rawF K A B s) 1) (nOf (rawF K A B s) 2)))) i))) i 0) x28 x29 (rSy x12 fun (i : Nat) => kOf (fun (i _ : Nat) => SC.val (Go.Value.int Go.IntKind.u8 (ldB x4 x5 x6 (loTk x1 xa xb xs ya yb ys) x7 (loTo x1 xa xb xs) x8 x9 (loSy x1 xb yb) (kOf (u8F fun (i _ : Nat) => cuF xs i)) x10 x3 (kOf (u8F (loKk xa xb (nOf (rawF K A B s) 1) (nOf (rawF K A B s) 2)))) i))) i 0) x13 (u8F (rDk fun (i : Nat) => kOf (fun (i _ : Nat) => SC.val (Go.Value.int Go.IntKind.u8 (ldB x4 x5 x6 (loTk x1 xa xb xs ya yb ys) x7 (loTo x1 xa xb xs) x8 x9 (loSy x1 xb yb) (kOf (u8F fun (i _ : Nat) => cuF xs i)) x10 x3 (kOf (u8F (loKk xa xb (nOf (rawF K A B s) 1) (nOf (rawF K A B s) 2)))) i))) i 0)) x30 x14 (u8F (rKk x12 fun (i : Nat) => kOf (fun (i _ : Nat) => SC.val (Go.Value.int Go.IntKind.u8 (ldB x4 x5 x6 (loTk x1 xa xb xs ya yb ys) x7 (loTo x1 xa xb xs) x8 x9 (loSy x1 xb yb) (kOf (u8F fun (i _ : Nat) => cuF xs i)) x10 x3 (kOf (u8F (loKk xa xb (nOf (rawF K A B s) 1) (nOf (rawF K A B s) 2)))) i))) i 0)) ∧ (Bool.true = Bool.true → Bool.true = Bool.true) ∧ (Bool.true = Bool.true → Bool.true = Bool.true) ∧ (Bool.true && (rdE x19 fun (i : Nat) => kOf (fun (i _ : Nat) => SC.val (Go.Value.int Go.IntKind.u8 (ldB x4 x5 x6 (loTk x1 xa xb xs ya yb ys) x7 (loTo x1 xa xb xs) x8 x9 (loSy x1 xb yb) (kOf (u8F fun (i _ : Nat) => cuF xs i)) x10 x3 (kOf (u8F (loKk xa xb (nOf (rawF K A B s) 1) (nOf (rawF K A B s) 2)))) i))) i 0) == (4 : Int)) = Bool.true) ∧ ((x23 && (rdE x12 fun (i : Nat) => kOf (fun (i _ : Nat) => SC.val (Go.Value.int Go.IntKind.u8 (ldB x4 x5 x6 (loTk x1 xa xb xs ya yb ys) x7 (loTo x1 xa xb xs) x8 x9 (loSy x1 xb yb) (kOf (u8F fun (i _ : Nat) => cuF xs i)) x10 x3 (kOf (u8F (loKk xa xb (nOf (rawF K A B s) 1) (nOf (rawF K A B s) 2)))) i))) i 0) == (0 : Int)) = Bool.false → Bool.false = Bool.true)) := by kernel_rfl
end Go.Proofs.Ytamhchemnalfbaa
end

section
namespace Go.Proofs.Ytamhchemnalfbaa
open Go.Sx
set_option maxRecDepth 100000
theorem FnOKs_sim {P : Program} {gl : Globs} {f : Nat} {share : Bool} {aq : List AQ} {nf : List (List FD) → List (List FD)} {c c' : List (List FD) → List Prop} {g g' : List (List FD) → List RS}
    (h : FnOKs P gl f (specQ share aq nf c g)) (hn : ∀ ls, Ok (c' ls) → Ok (simQs aq ls (nf ls)) ∧ Ok (c (nf ls)) ∧ g (nf ls) = g' ls) : FnOKs P gl f (specQ share aq id c' g') := by
  intro args ps rs hs hp
  simp only [specQ] at hs
  split at hs
  case h_2 => cases hs
  rename_i q ls ha
  simp only [Option.some.injEq, Prod.mk.injEq] at hs
  obtain ⟨rfl, rfl⟩ := hs
  obtain ⟨o1, o23⟩ := Ok.append.1 hp
  obtain ⟨_, o3⟩ := Ok.append.1 o23
  obtain ⟨e0, e1, e2⟩ := hn ls o3
  refine h args (q ++ (simQs aq ls (nf ls) ++ c (nf ls))) (g' (id ls)) ?_ (Ok.append.2 ⟨o1, Ok.append.2 ⟨e0, e1⟩⟩)
  simp only [specQ, ha, e2, id_eq]
theorem closed_u8R (n w : Nat) (k : Nat → Nat → Int) : closedG n w (u8F k) := fun i _ c _ => by unfold u8F; exact ⟨trivial, rfl⟩
theorem ok_ko (a : Option Addr) (n cap : Nat) (K A B : Nat → Int) (s : Nat → ByteArray) :
    OwesR Try.prog cxKo [] [(3, .inv1 (invKo K A B s a n cap))] 30 Try.f26 [.sc (.xs a n cap 4 (rawF K A B s))] false [.rows (wrL n) 20 (u8F (kyF A B))] := by
  rw [vc_ko]
  intro x1 x2 x3
  have e1 : x1 = (wrL n : Int) := by
    show (if (19 : Int) < (n : Int) then (19 : Int) else (n : Int)) = ((min n 19 : Nat) : Int)
    split <;> omega
  have e2 : x2 = wrL n := by show x1.toNat = _; rw [e1]; exact Int.toNat_natCast _
  have e3 : x3 = (wrL n : Int) := by show (x2 : Int) = _; rw [e2]
  clear_value x1 x2 x3
  subst e1 e2 e3
  have hL : wrL n ≤ n ∧ wrL n ≤ 19 := ⟨Nat.min_le_left _ _, Nat.min_le_right _ _⟩
  have hML : maxLen = 9223372036854775807 := rfl
  have z : ∀ i, simC (rawF K A B s i 0) (rawF K A B s i 0) ∧ simC (rawF K A B s i 1) (rawF K A B s i 1) ∧ simC (rawF K A B s i 2) (rawF K A B s i 2) ∧ s i = s i := fun i => ⟨rfl, rfl, rfl, rfl⟩
  refine ⟨⟨by omega, by omega⟩, fun _ => rfl, fun y hy => ⟨fun hl => ?_, fun hl => ?_⟩, fun hl => ?_, fun hl => ?_⟩
  · obtain ⟨y, sp⟩ := y
    dsimp only at hy hl ⊢
    have hl := of_decide_eq_true hl
    refine ⟨⟨by omega, by omega⟩, rfl, rfl, ⟨by omega, by omega, Nat.add_mul ..⟩, ⟨by omega, by omega⟩, fun c hc => ⟨(y + 1, c), ⟨by dsimp only; omega, by dsimp only; omega, by dsimp only; omega⟩, ⟨rfl, rfl, rfl, rfl, rfl⟩, ⟨rfl, rfl, rfl, fun i _ => z i⟩, rfl, by rw [IntKind.wrap_i64]; dsimp only; omega, rfl, rfl, fun i hi => ?_, by show wrL n - (y + 1) + 1 ≤ wrL n - y; omega⟩⟩
    have k : ∀ c v, v = kyF A B y c → (bif decide (i < y) then kyF A B i c else v) = kyF A B i c := fun c v h => bif_st (A := fun i => kyF A B i c) hi h
    exact ⟨k 0 _ rfl, k 1 _ (by rw [Int.toNat_natCast]; rfl), k 2 _ (by rw [Int.toNat_natCast]; rfl), k 3 _ rfl, k 4 _ rfl, k 5 _ rfl, k 6 _ rfl, k 7 _ rfl, k 8 _ rfl, k 9 _ rfl, k 10 _ rfl, k 11 _ rfl, k 12 _ rfl, k 13 _ rfl, k 14 _ rfl, k 15 _ rfl, k 16 _ rfl, k 17 _ rfl, k 18 _ rfl, k 19 _ rfl⟩
  · obtain ⟨y, sp⟩ := y
    dsimp only at hy hl ⊢
    have hl := of_decide_eq_false hl
    refine ⟨by omega, by omega, by omega, fun i _ => ?_⟩
    rw [Nat.zero_add]
    exact ⟨rfl, rfl, rfl, rfl, rfl, rfl, rfl, rfl, rfl, rfl, rfl, rfl, rfl, rfl, rfl, rfl, rfl, rfl, rfl, rfl⟩
  · have hl := of_decide_eq_true hl
    refine ⟨⟨by omega, by omega⟩, ⟨by omega, by decide⟩, fun c hc => ⟨(1, c), ⟨by dsimp only; omega, by dsimp only; omega, by dsimp only; omega⟩, ⟨rfl, rfl, rfl, rfl, rfl⟩, ⟨rfl, rfl, rfl, fun i _ => z i⟩, rfl, rfl, rfl, rfl, fun i hi => ?_, trivial⟩⟩
    obtain rfl : i = 0 := by omega
    exact ⟨rfl, rfl, rfl, rfl, rfl, rfl, rfl, rfl, rfl, rfl, rfl, rfl, rfl, rfl, rfl, rfl, rfl, rfl, rfl, rfl⟩
  · have hl := of_decide_eq_false hl
    omega
theorem keyF_e (A B : Nat → Int) : u8F (kyF A B) = keyF A B := funext fun i => funext fun c => by
  rcases c with _ | _ | _ | c <;> rfl
theorem okx_Ko : CxOK Try.prog cxKo := okx_mark (okx_mark (okx_mark (okx_mark (okx_mark okx_nil))))
def nfKo : List (List FD) → List (List FD)
  | [[.x a n cap f]] => [[.x a n cap (rawF (nOf f 0) (nOf f 1) (nOf f 2) (tOf f))]]
  | ls => ls
def koC' : List (List FD) → List Prop
  | [[.x _ _ _ f]] => [f = rawF (nOf f 0) (nOf f 1) (nOf f 2) (tOf f)]
  | _ => [False]
theorem card_ko' : FnOKs Try.prog [] 26 (specQ false shKo nfKo koC' koG) := by
  refine FnOKs_Q (cx := cxKo) okx_Ko (sl := []) oks_nil Try.func26 (by kernel_rfl) (by kernel_rfl) fun ls hc => ?_
  unfold koC' at hc
  split at hc
  · rename_i a n cap f
    obtain ⟨p, _⟩ := hc
    have := ok_ko a n cap (nOf f 0) (nOf f 1) (nOf f 2) (tOf f)
    rw [← p, keyF_e] at this
    refine ⟨_, _, fun r hr => ?_, this⟩
    rw [List.mem_singleton.1 hr, ← keyF_e]
    exact closed_u8R _ _ _
  · exact hc.1.elim
theorem card_ko {gl : Globs} : FnOKs Try.prog gl 26 cKo := by
  refine FnOKs.up0 (FnOKs_sim card_ko' fun ls hc => ?_) gl
  unfold koC at hc
  split at hc
  · rename_i a n cap f
    obtain ⟨p, _⟩ := hc
    refine ⟨?_, ⟨rfl, trivial⟩, rfl⟩
    refine ⟨rfl, rfl, rfl, fun i hi => ?_, trivial⟩
    obtain ⟨h0, h1, h2, h3⟩ := p.hs i hi
    show simC (f i 0) _ ∧ simC (f i 1) _ ∧ simC (f i 2) _ ∧ simC (f i 3) _
    rw [h0, h1, h2, h3]
    exact ⟨rfl, rfl, rfl, rfl⟩
  · exact hc.1.elim
theorem ok_pkN (q a b : Int) (ha : i64ok a) (hb : 0 < b ∧ b ≤ 1099511627776) (hq : a % b = q) : Owes Try.prog Cx.none [] 10 Try.f8 [sI .i64 a, sI .i64 b] (.one (.sc (.num .i64 q))) := by
  rw [vc_pkN]
  obtain ⟨a1, a2⟩ := ha
  have p0 := Int.emod_nonneg a (by omega : b ≠ 0)
  have p1 := Int.emod_lt_of_pos a hb.1
  have q' := Int.tmod_eq_emod (a := a) (b := b)
  have e2 : (b.natAbs : Int) = b := by omega
  refine ⟨by omega, fun h => ?_, fun h => ?_⟩
  · have h' : a.tmod b < 0 := of_decide_eq_true h
    by_cases c : 0 ≤ a ∨ b ∣ a
    · rw [if_pos c] at q'; omega
    · rw [if_neg c, e2] at q'
      have w : IntKind.wrap .i64 (a.tmod b + b) = a.tmod b + b := by rw [IntKind.wrap_i64]; omega
      rw [w]; omega
  · have h' : ¬ a.tmod b < 0 := of_decide_eq_false h
    by_cases c : 0 ≤ a ∨ b ∣ a
    · rw [if_pos c] at q'; omega
    · rw [if_neg c, e2] at q'; omega
theorem card_pkq (q : Int) : FnOKg Try.prog [] 8 (cPkq q) :=
  FnOK_II (cx := Cx.none) (iv := []) (N := 10) ⟨fun _ h => (by cases h), fun _ h => (by cases h)⟩ Try.func8 (by kernel_rfl) (by kernel_rfl) (fun _ b => by show SV.bnd none0 (if b = 4 then _ else _); split <;> trivial) fun a b h => by
    obtain ⟨h1, h2, h3, _⟩ := h
    by_cases c : b = 4
    · rw [if_pos c]; exact ok_pkN q a b h1 h2 (h3 c)
    · rw [if_neg c]; exact ok_pkW a b h1 h2
theorem okx_Lo (q : Int) : CxOK Try.prog (cxLo q) := okx_cons (card_pkq q) (okx_cons card_number (okx_cons card_word (okx_cons card_Cmp (okx_mark (okx_mark (okx_mark (okx_mark (okx_mark okx_nil))))))))
theorem oks_Lo : ∀ p ∈ slLo, FnOKs Try.prog [] p.1 p.2 := oks_cons card_ko oks_nil
end Go.Proofs.Ytamhchemnalfbaa
end

section
namespace Go.Proofs.Ytamhchemnalfbaa
open Go.Sx
set_option maxRecDepth 100000
section
variable {k xk xa xb : Int} {xs : ByteArray} {yk ya yb : Int} {ys : ByteArray} {a : Option Addr} {n cap : Nat} {K A B : Nat → Int} {s : Nat → ByteArray}
theorem lo_lt {q : Int} {X Y : Nat} (hq : 2 ≤ q) (h : cmpN X Y < 0) : loAm q X Y = Y ∧ loFe q X Y = X := by
  unfold loAm loFe
  rw [if_pos hq, if_pos hq, if_pos h, if_pos h]
  exact ⟨rfl, rfl⟩
theorem lo_ge {q : Int} {X Y : Nat} (hq : 2 ≤ q) (h : ¬ cmpN X Y < 0) : loAm q X Y = X ∧ loFe q X Y = Y := by
  unfold loAm loFe
  rw [if_pos hq, if_pos hq, if_neg h, if_neg h]
  exact ⟨rfl, rfl⟩
theorem ne4 {z : Int} {P : Prop} (h : (z == 4) = false) : z = 4 → P := fun e => by rw [e] at h; cases h
theorem sym_sz (v : Int) : (symT v).size = 2 := rfl
theorem ok_lo0 (hq : k % 4 = 0) (hk : i64ok k) (hx : rawP xk xa xb xs) (hy : rawP yk ya yb ys) :
    OwesR Try.prog (cxLo 0) slLo [] 30 Try.f13 [sI .i64 k, sRaw xk xa xb xs, sRaw yk ya yb ys, .sc (.xs a n cap 4 (rawF K A B s))] true (loRS k xk xa xb xs yk ya yb ys n A B) := by
  unfold loRS
  rw [hq, vc_lo0]
  intro x1 x2 _ _
  obtain ⟨a1, a2, a3⟩ := hx
  obtain ⟨b1, b2, b3⟩ := hy
  have h2 : 0 ≤ x2 ∧ x2 < 3 := ⟨Int.emod_nonneg _ (by decide), Int.emod_lt_of_pos _ (by decide)⟩
  have hs : ((bytesI (intsL [SK.c (SC.val (Value.int .u8 (IntKind.u8.wrap (97 + IntKind.u8.wrap x1)))), SK.c (SC.num .u8 122)])).size : Int) = 2 := rfl
  have r32 : ∀ j, (0 : Int) = loTo 0 xa xb xs j := fun _ => rfl
  exact ⟨hk, by decide, fun _ => hq, a1, a2, a3, b2, by decide, ne4 rfl, a2, by decide, ne4 rfl, a3, by decide, ne4 rfl, b3, by decide, ne4 rfl, ⟨by decide, h2.1, by omega⟩, ⟨rfl, trivial⟩, ⟨rfl, trivial⟩, ⟨rfl, trivial⟩, ⟨fun _ _ => rfl, trivial⟩, ⟨rfl, trivial⟩,
    ⟨r32 _, r32 _, r32 _, r32 _, r32 _, r32 _, r32 _, r32 _, r32 _, r32 _, r32 _, r32 _, r32 _, r32 _, r32 _, r32 _, r32 _, r32 _, r32 _, r32 _, r32 _, r32 _, r32 _, r32 _, r32 _, r32 _, r32 _, r32 _, r32 _, r32 _, r32 _, r32 _, trivial⟩, ⟨rfl, trivial⟩, ⟨rfl, trivial⟩, ⟨rfl, trivial⟩, rfl, ⟨rfl, trivial⟩, rfl, trivial⟩
theorem ok_lo2 (hq : k % 4 = 2) (hk : i64ok k) (hx : rawP xk xa xb xs) (hy : rawP yk ya yb ys) :
    OwesR Try.prog (cxLo 2) slLo [] 30 Try.f13 [sI .i64 k, sRaw xk xa xb xs, sRaw yk ya yb ys, .sc (.xs a n cap 4 (rawF K A B s))] true (loRS k xk xa xb xs yk ya yb ys n A B) := by
  unfold loRS
  rw [hq, vc_lo2]
  generalize rawN xk xa xb = X
  generalize rawN yk ya yb = Y
  intro x1 x2 x3 _ _
  obtain ⟨a1, a2, a3⟩ := hx
  obtain ⟨b1, b2, b3⟩ := hy
  have t1 : x1 < 0 → (Y % M256 = x2 ∧ True) ∧ (X % M256 = x3 ∧ True) := fun h => by
    have h : cmpN X Y < 0 := h
    show (Y % M256 = loAm 2 X Y % M256 ∧ True) ∧ (X % M256 = loFe 2 X Y % M256 ∧ True)
    obtain ⟨e1, e2⟩ := lo_lt (q := 2) (by decide) h
    rw [e1, e2]
    exact ⟨⟨rfl, trivial⟩, rfl, trivial⟩
  have t2 : ¬ x1 < 0 → (X % M256 = x2 ∧ True) ∧ (Y % M256 = x3 ∧ True) := fun h => by
    have h : ¬ cmpN X Y < 0 := h
    show (X % M256 = loAm 2 X Y % M256 ∧ True) ∧ (Y % M256 = loFe 2 X Y % M256 ∧ True)
    obtain ⟨e1, e2⟩ := lo_ge (q := 2) (by decide) h
    rw [e1, e2]
    exact ⟨⟨rfl, trivial⟩, rfl, trivial⟩
  have d4 : (0 : Int) < 4 ∧ (4 : Int) ≤ 1099511627776 := by decide
  have d6 : (0 : Int) < 65536 ∧ (65536 : Int) ≤ 1099511627776 := by decide
  clear_value x1 x2 x3
  refine ⟨hk, d4, fun _ => hq, a1, a2, a3, b1, b2, b3, fun h => ?_, fun h => ?_⟩
  · obtain ⟨p1, p2⟩ := t1 (of_decide_eq_true h)
    exact ⟨b1, b2, b3, a3, d6, ne4 rfl, a1, a2, a3, b3, d6, ne4 rfl, hk, d4, fun _ => hq, ⟨rfl, trivial⟩, p1, p2, ⟨fun _ _ => rfl, trivial⟩, ⟨rfl, trivial⟩, ⟨fun _ _ => rfl, trivial⟩, ⟨rfl, trivial⟩, ⟨rfl, trivial⟩, ⟨rfl, trivial⟩, rfl, ⟨rfl, trivial⟩, rfl, trivial⟩
  · obtain ⟨p1, p2⟩ := t2 (of_decide_eq_false h)
    exact ⟨b1, b2, b3, a3, d6, ne4 rfl, a1, a2, a3, b3, d6, ne4 rfl, hk, d4, fun _ => hq, ⟨rfl, trivial⟩, p1, p2, ⟨fun _ _ => rfl, trivial⟩, ⟨rfl, trivial⟩, ⟨fun _ _ => rfl, trivial⟩, ⟨rfl, trivial⟩, ⟨rfl, trivial⟩, ⟨rfl, trivial⟩, rfl, ⟨rfl, trivial⟩, rfl, trivial⟩
theorem cu_e (s : ByteArray) : (if (100 : Int) < (s.size : Int) then (100 : Int) else (s.size : Int)) = (cuL s : Int) := by
  unfold cuL
  split <;> omega
theorem cu_sz (s : ByteArray) : (s.extract 0 (cuL s)).size = cuL s := by
  rw [ByteArray.size_extract]
  unfold cuL
  omega
theorem ok_lo3 (hq : k % 4 = 3) (hk : i64ok k) (hx : rawP xk xa xb xs) (hy : rawP yk ya yb ys) :
    OwesR Try.prog (cxLo 3) slLo [] 30 Try.f13 [sI .i64 k, sRaw xk xa xb xs, sRaw yk ya yb ys, .sc (.xs a n cap 4 (rawF K A B s))] true (loRS k xk xa xb xs yk ya yb ys n A B) := by
  unfold loRS
  rw [hq, vc_lo3]
  generalize rawN xk xa xb = X
  generalize rawN yk ya yb = Y
  intro x1 x2 x3 x4 x5 _ _
  obtain ⟨a1, a2, a3⟩ := hx
  obtain ⟨b1, b2, b3⟩ := hy
  have t1 : x1 < 0 → (Y % M256 = x4 ∧ True) ∧ (X % M256 = x5 ∧ True) := fun h => by
    have h : cmpN X Y < 0 := h
    show (Y % M256 = loAm 3 X Y % M256 ∧ True) ∧ (X % M256 = loFe 3 X Y % M256 ∧ True)
    obtain ⟨e1, e2⟩ := lo_lt (q := 3) (by decide) h
    rw [e1, e2]
    exact ⟨⟨rfl, trivial⟩, rfl, trivial⟩
  have t2 : ¬ x1 < 0 → (X % M256 = x4 ∧ True) ∧ (Y % M256 = x5 ∧ True) := fun h => by
    have h : ¬ cmpN X Y < 0 := h
    show (X % M256 = loAm 3 X Y % M256 ∧ True) ∧ (Y % M256 = loFe 3 X Y % M256 ∧ True)
    obtain ⟨e1, e2⟩ := lo_ge (q := 3) (by decide) h
    rw [e1, e2]
    exact ⟨⟨rfl, trivial⟩, rfl, trivial⟩
  have e2 : x2 = (cuL xs : Int) := cu_e xs
  have hc : cuL xs ≤ xs.size := Nat.min_le_left _ _
  have e3 : x3 = cuL xs := by show (xs.extract 0 x2.toNat).size = _; rw [e2, Int.toNat_natCast]; exact cu_sz xs
  have e4 : ∀ i, (((xs.extract 0 x2.toNat).data.getD i (0 : UInt8)).toNat : Int) = cuF xs i := fun i => by rw [e2, Int.toNat_natCast]; rfl
  have d4 : (0 : Int) < 4 ∧ (4 : Int) ≤ 1099511627776 := by decide
  have d6 : (0 : Int) < 65536 ∧ (65536 : Int) ≤ 1099511627776 := by decide
  have hM : x3 = loM 3 xs := e3
  clear_value x1 x2 x3 x4 x5
  refine ⟨hk, d4, fun _ => hq, a1, a2, a3, b1, b2, b3, fun h => ?_, fun h => ?_⟩
  · obtain ⟨p1, p2⟩ := t1 (of_decide_eq_true h)
    exact ⟨b1, b2, b3, a3, d6, ne4 rfl, a1, a2, a3, b3, d6, ne4 rfl, hk, d4, fun _ => hq, ⟨by decide, by omega, by omega⟩, fun _ _ _ => ⟨⟨rfl, trivial⟩, p1, p2, ⟨fun _ _ => rfl, trivial⟩, ⟨rfl, trivial⟩, ⟨fun _ _ => rfl, trivial⟩, ⟨rfl, trivial⟩, ⟨rfl, trivial⟩, ⟨rfl, trivial⟩, ⟨hM, fun i _ => e4 i⟩, ⟨rfl, trivial⟩, rfl, trivial⟩⟩
  · obtain ⟨p1, p2⟩ := t2 (of_decide_eq_false h)
    exact ⟨b1, b2, b3, a3, d6, ne4 rfl, a1, a2, a3, b3, d6, ne4 rfl, hk, d4, fun _ => hq, ⟨by decide, by omega, by omega⟩, fun _ _ _ => ⟨⟨rfl, trivial⟩, p1, p2, ⟨fun _ _ => rfl, trivial⟩, ⟨rfl, trivial⟩, ⟨fun _ _ => rfl, trivial⟩, ⟨rfl, trivial⟩, ⟨rfl, trivial⟩, ⟨rfl, trivial⟩, ⟨hM, fun i _ => e4 i⟩, ⟨rfl, trivial⟩, rfl, trivial⟩⟩
end
end Go.Proofs.Ytamhchemnalfbaa
end

section
namespace Go.Proofs.Ytamhchemnalfbaa
open Go.Sx
set_option maxRecDepth 100000
section
variable {k xk xa xb : Int} {xs : ByteArray} {yk ya yb : Int} {ys : ByteArray} {a : Option Addr} {n cap : Nat} {K A B : Nat → Int} {s : Nat → ByteArray}
theorem ky_s {α : Type} {x : α} {F : Nat → α} (i : Nat) : (bif decide (0 + i < 1) then x else F (0 + i - 1)) = if i < 1 then x else F (i - 1) := by
  rw [Nat.zero_add]
  by_cases c : i < 1
  · rw [decide_eq_true c, if_pos c]; rfl
  · rw [decide_eq_false c, if_neg c]; rfl
theorem ky_1 (i : Nat) : IntKind.u8.wrap (bif decide (0 + i < 1) then xa else A (0 + i - 1)) = loKk xa xb A B i 1 := by
  rw [ky_s (F := A)]; rfl
theorem ky_2 (i : Nat) : IntKind.u8.wrap (bif decide (0 + i < 1) then xb else B (0 + i - 1)) = loKk xa xb A B i 2 := by
  rw [ky_s (F := B)]; rfl
theorem ok_lo1 (hq : k % 4 = 1) (hk : i64ok k) (hx : rawP xk xa xb xs) (hn : n ≤ maxLen) :
    OwesR Try.prog (cxLo 1) slLo [] 30 Try.f13 [sI .i64 k, sRaw xk xa xb xs, sRaw yk ya yb ys, .sc (.xs a n cap 4 (rawF K A B s))] true (loRS k xk xa xb xs yk ya yb ys n A B) := by
  unfold loRS
  rw [hq, vc_lo1]
  intro x1 x2 x3 _ _
  obtain ⟨a1, a2, a3⟩ := hx
  have hML : maxLen = 9223372036854775807 := rfl
  have e1 : x1 = ((min n 18 : Nat) : Int) := by
    show (if (18 : Int) < (n : Int) then (18 : Int) else (n : Int)) = _
    split <;> omega
  have e2 : x2 = 1 + min n 18 := by show 1 + x1.toNat = _; rw [e1, Int.toNat_natCast]
  have e3 : x3 = loY 1 n := by
    show wrL x2 = _
    rw [e2]
    show min (1 + min n 18) 19 = 1 + min n 18
    omega
  have l1 : 0 ≤ x1 ∧ x1 ≤ (n : Int) := by omega
  have c1 : (1 : Nat) ≤ 1 ∧ 1 ≤ maxLen ∧ (4 : Nat) = 4 := ⟨by omega, by omega, rfl⟩
  have c2 : x2 ≤ maxLen ∧ x2 * 40 ≤ 140737488355328 := by omega
  have c3 : x2 ≤ maxLen := c2.1
  have d4 : (0 : Int) < 4 ∧ (4 : Int) ≤ 1099511627776 := by decide
  have d3 : (0 : Int) < 4294967296 ∧ (4294967296 : Int) ≤ 1099511627776 := by decide
  have n4 : (4294967296 : Int) = 4 → xa % 4294967296 = 1 := ne4 rfl
  clear_value x1 x2 x3
  refine ⟨hk, d4, fun _ => hq, ?_⟩
  have r0 : ∀ j, (0 : Int) = loTk 1 xa xb xs ya yb ys j := fun _ => rfl
  have r1 : ∀ j, (0 : Int) = loTo 1 xa xb xs j := fun _ => rfl
  have E : ∀ (c : Nat), x2 + c ≤ maxLen → 0 + x2 ≤ x2 ∧ x2 ≤ x2 + c := fun c _ => ⟨by omega, by omega⟩
  refine ⟨⟨a2, d3, n4, ⟨l1, c1, c2, fun c hc => ⟨(E c hc).1, (E c hc).2, fun ad => ⟨rfl, rfl, rfl, fun i _ => ⟨rfl, rfl, rfl, rfl⟩, ⟨fun i _ => ?_, c3⟩, fun ad cap _ _ => ?_⟩⟩⟩, l1, c1, c2, fun c hc => ⟨(E c hc).1, (E c hc).2, fun ad => ⟨rfl, rfl, rfl, fun i _ => ⟨rfl, rfl, rfl, rfl⟩, ⟨fun i _ => ?_, c3⟩, fun ad cap _ _ => ?_⟩⟩⟩, a2, d3, n4, l1, c1, c2, fun c hc => ⟨(E c hc).1, (E c hc).2, fun ad => ⟨rfl, rfl, rfl, fun i _ => ⟨rfl, rfl, rfl, rfl⟩, ⟨fun i _ => ?_, c3⟩, fun ad cap _ _ => ?_⟩⟩⟩
  all_goals first
    | exact ⟨by kernel_rfl, by kernel_rfl, by kernel_rfl, by kernel_rfl⟩
    | exact ⟨⟨rfl, trivial⟩, ⟨rfl, trivial⟩, ⟨rfl, trivial⟩, ⟨r0 _, r0 _, r0 _, r0 _, r0 _, r0 _, r0 _, r0 _, r0 _, r0 _, r0 _, r0 _, r0 _, r0 _, r0 _, r0 _, r0 _, r0 _, r0 _, r0 _, r0 _, r0 _, r0 _, r0 _, r0 _, r0 _, r0 _, r0 _, r0 _, r0 _, r0 _, r0 _, trivial⟩, ⟨rfl, trivial⟩, ⟨r1 _, r1 _, r1 _, r1 _, r1 _, r1 _, r1 _, r1 _, r1 _, r1 _, r1 _, r1 _, r1 _, r1 _, r1 _, r1 _, r1 _, r1 _, r1 _, r1 _, r1 _, r1 _, r1 _, r1 _, r1 _, r1 _, r1 _, r1 _, r1 _, r1 _, r1 _, r1 _, trivial⟩, ⟨rfl, trivial⟩, ⟨rfl, trivial⟩, ⟨rfl, trivial⟩, rfl, ⟨rfl, trivial⟩, ⟨e3, fun i _ => ⟨rfl, Eq.trans (by kernel_rfl) (ky_1 (xa := xa) (xb := xb) (A := A) (B := B) i), Eq.trans (by kernel_rfl) (ky_2 (xa := xa) (xb := xb) (A := A) (B := B) i), rfl, rfl, rfl, rfl, rfl, rfl, rfl, rfl, rfl, rfl, rfl, rfl, rfl, rfl, rfl, rfl, rfl⟩⟩, trivial⟩
end
theorem lo_closed {k xk xa xb : Int} {xs : ByteArray} {yk ya yb : Int} {ys : ByteArray} {n : Nat} {A B : Nat → Int} : ∀ r ∈ loRS k xk xa xb xs yk ya yb ys n A B, r.closed := by
  intro r hr
  rw [List.mem_singleton.1 hr]
  refine closed_st fun z hz => ?_
  simp only [List.mem_cons, List.not_mem_nil, or_false] at hz
  rcases hz with rfl | rfl | rfl | rfl | rfl | rfl | rfl | rfl | rfl | rfl | rfl | rfl
  · exact trivial
  · exact trivial
  · exact trivial
  · exact trivial
  · exact trivial
  · exact trivial
  · exact trivial
  · exact trivial
  · exact trivial
  · exact closed_u8R _ _ _
  · exact trivial
  · exact closed_u8R _ _ _
theorem card_lo {gl : Globs} : FnOKs Try.prog gl 13 cLo := by
  refine FnOKs_cases fun ls hc => ⟨fun l => [l = ls], ⟨rfl, trivial⟩, ?_⟩
  unfold loC at hc
  split at hc
  · rename_i k xk xa xb xs yk ya yb ys ad n cap f
    obtain ⟨p, _⟩ := hc
    have h0 := Int.emod_nonneg k (show (4 : Int) ≠ 0 by decide)
    have h4 := Int.emod_lt_of_pos k (show (0 : Int) < 4 by decide)
    rcases (by omega : k % 4 = 0 ∨ k % 4 = 1 ∨ k % 4 = 2 ∨ k % 4 = 3) with q | q | q | q
    · refine FnOKs.up0 (FnOKs_Q (cx := cxLo 0) (okx_Lo 0) (sl := slLo) oks_Lo Try.func13 (by kernel_rfl) (by kernel_rfl) fun l hl => ?_) gl
      obtain ⟨rfl, _⟩ := hl
      have := ok_lo0 (ys := ys) (a := ad) (n := n) (cap := cap) (K := nOf f 0) (A := nOf f 1) (B := nOf f 2) (s := tOf f) q p.rk p.rx p.ry
      rw [← p.nf] at this
      exact ⟨_, _, lo_closed, this⟩
    · refine FnOKs.up0 (FnOKs_Q (cx := cxLo 1) (okx_Lo 1) (sl := slLo) oks_Lo Try.func13 (by kernel_rfl) (by kernel_rfl) fun l hl => ?_) gl
      obtain ⟨rfl, _⟩ := hl
      have := ok_lo1 (yk := yk) (ya := ya) (yb := yb) (ys := ys) (a := ad) (n := n) (cap := cap) (K := nOf f 0) (A := nOf f 1) (B := nOf f 2) (s := tOf f) q p.rk p.rx p.hn
      rw [← p.nf] at this
      exact ⟨_, _, lo_closed, this⟩
    · refine FnOKs.up0 (FnOKs_Q (cx := cxLo 2) (okx_Lo 2) (sl := slLo) oks_Lo Try.func13 (by kernel_rfl) (by kernel_rfl) fun l hl => ?_) gl
      obtain ⟨rfl, _⟩ := hl
      have := ok_lo2 (ys := ys) (a := ad) (n := n) (cap := cap) (K := nOf f 0) (A := nOf f 1) (B := nOf f 2) (s := tOf f) q p.rk p.rx p.ry
      rw [← p.nf] at this
      exact ⟨_, _, lo_closed, this⟩
    · refine FnOKs.up0 (FnOKs_Q (cx := cxLo 3) (okx_Lo 3) (sl := slLo) oks_Lo Try.func13 (by kernel_rfl) (by kernel_rfl) fun l hl => ?_) gl
      obtain ⟨rfl, _⟩ := hl
      have := ok_lo3 (ys := ys) (a := ad) (n := n) (cap := cap) (K := nOf f 0) (A := nOf f 1) (B := nOf f 2) (s := tOf f) q p.rk p.rx p.ry
      rw [← p.nf] at this
      exact ⟨_, _, lo_closed, this⟩
  · exact hc.1.elim
end Go.Proofs.Ytamhchemnalfbaa
end

section
namespace Go.Proofs.Ytamhchemnalfbaa
open Go.Sx
set_option maxRecDepth 100000
theorem conj_o {b : Bool} (h : b = true) : conj [b] = true := by rw [h]; rfl
theorem all_of {f g : Nat → Int} {n : Nat} (h : ∀ j, j < n → f j = g j) : ((List.range n).all fun j => f j == g j) = true := by
  rw [List.all_eq_true]
  intro j hj
  exact beq_iff_eq.2 (h j (List.mem_range.1 hj))
theorem ok_sl {kd : Int} {am fe : Nat} {tk : Nat → Int} {hm : Int} {to : Nat → Int} {tc dc : Int} {sy : ByteArray} {a : Option Addr} {m cap : Nat} {dk : Nat → Nat → Int} {ix : Int} {b : Option Addr} {y cy : Nat} {kk : Nat → Nat → Int} {am' fe' : Nat} {tk' to' : Nat → Int} {a' : Option Addr} {cap' : Nat} {dk' : Nat → Nat → Int} {b' : Option Addr} {cy' : Nat} {kk' : Nat → Nat → Int}
    (h2 : am % M256 = am' % M256) (h3 : fe % M256 = fe' % M256) (h4 : ∀ j, j < 32 → tk j = tk' j) (h6 : ∀ j, j < 32 → to j = to' j) (h11 : ∀ i, i < m → dk i 0 = dk' i 0) (h14 : ∀ i, i < y → ∀ c, c < 20 → kk i c = kk' i c) (hy : (y : Int) ≤ 9223372036854775806) :
    OwesR Try.prog cxSl [] [(4, .inv (invSl kd am fe tk hm to tc dc sy a m cap dk ix b y cy kk am' fe' tk' to' a' cap' dk' b' cy' kk'))] 30 Try.f17 [.agg (ksLd kd am fe tk hm to tc dc sy a m cap dk ix b y cy kk), .agg (ksLd kd am' fe' tk' hm to' tc dc sy a' m cap' dk' ix b' y cy' kk')] false [.v (sB true)] := by
  rw [vc_sl]
  intro x1 x2 x3 x4 x5 x6 x7 x8 x9 x10 x11 x12 x13
  have e1 : x3 = x1 := h2.symm
  have e2 : x4 = x2 := h3.symm
  have e5 : x5 = true := by show (kd == kd && conj [x1 == x3]) = true; rw [e1, beq_self_eq_true, beq_self_eq_true]; rfl
  have e6 : x6 = true := by show (x5 && conj [x2 == x4]) = true; rw [e5, e2, beq_self_eq_true]; rfl
  have e7 : x7 = true := by show (x6 && conj [(List.range 32).all fun j => tk j == tk' j]) = true; rw [e6, all_of h4]; rfl
  have e8 : x8 = true := by show (x7 && hm == hm) = true; rw [e7, beq_self_eq_true]; rfl
  have e9 : x9 = true := by show (x8 && conj [(List.range 32).all fun j => to j == to' j]) = true; rw [e8, all_of h6]; rfl
  have e10 : x10 = true := by show (x9 && tc == tc) = true; rw [e9, beq_self_eq_true]; rfl
  have e11 : x11 = true := by show (x10 && dc == dc) = true; rw [e10, beq_self_eq_true]; rfl
  have e12 : x12 = true := by show (x11 && sy.toList == sy.toList) = true; rw [e11, beq_self_eq_true]; rfl
  have e13 : x13 = true := by
    show (x12 && (bytesI (List.map (fun j => dk j 0) (List.range m))).toList == (bytesI (List.map (fun j => dk' j 0) (List.range m))).toList) = true
    rw [e12, show List.map (fun j => dk j 0) (List.range m) = List.map (fun j => dk' j 0) (List.range m) from List.map_congr_left fun j hj => h11 j (List.mem_range.1 hj), beq_self_eq_true]; rfl
  have z : ∀ (k : Nat → Nat → Int) i c, simC (u8F k i c) (u8F k i c) := fun _ _ _ => rfl
  clear_value x1 x2 x3 x4 x5 x6 x7 x8 x9 x10 x11 x12 x13
  subst e1 e2 e5 e6 e7 e8 e9 e10 e11 e12 e13
  simp only [eq_self, implies_true, and_self, true_and, and_true, imp_self, z, beq_self_eq_true, bne_self_eq_false, reduceCtorEq, false_imp_iff, forall_const, Bool.and_self]
  refine ⟨fun _ => rfl, 0, Nat.zero_le _, rfl, fun i hi hl => ?_⟩
  have hl := of_decide_eq_true hl
  refine ⟨⟨by omega, by omega⟩, ⟨by omega, by omega⟩, fun h => ?_, fun _ => ⟨i + 1, by omega, by rw [IntKind.wrap_i64]; omega, ?_⟩⟩
  · have q : conj [(List.range 20).all fun j => kk (i : Int).toNat (0 + j) == kk' (i : Int).toNat (0 + j)] = true := conj_o (all_of fun j hj => by
      rw [Int.toNat_natCast]; exact h14 i (by omega) _ (by omega))
    rw [q] at h
    cases h
  · show y - (i + 1) + 1 ≤ y - i
    omega
theorem okx_Sl : CxOK Try.prog cxSl := okx_mark (okx_mark (okx_mark (okx_mark okx_nil)))
theorem card_sl {gl : Globs} : FnOKs Try.prog gl 17 cSl := by
  refine FnOKs.up0 (FnOKs_Q (cx := cxSl) okx_Sl (sl := []) oks_nil Try.func17 (by kernel_rfl) (by kernel_rfl) fun ls hc => ?_) gl
  unfold slC at hc
  split at hc
  · rename_i kd am fe tk hm to tc dc sy a m cap f ix b y cy h kd' am' fe' tk' hm' to' tc' dc' sy' a' m' cap' f' ix' b' y' cy' h'
    obtain ⟨p, _⟩ := hc
    obtain ⟨sf, sh, sf', sh', rfl, q2, q3, q4, rfl, q6, rfl, rfl, rfl, rfl, q11, rfl, rfl, q14, hy⟩ := p
    have := ok_sl (kd := kd) (hm := hm) (tc := tc) (dc := dc) (sy := sy) (a := a) (cap := cap) (ix := ix) (b := b) (cy := cy) (a' := a') (cap' := cap') (b' := b') (cy' := cy') q2 q3 q4 q6 q11 q14 hy
    unfold ksLd at this
    rw [← sf, ← sh, ← sf', ← sh'] at this
    refine ⟨_, _, fun r hr => ?_, this⟩
    rw [List.mem_singleton.1 hr]; exact trivial
  · exact hc.1.elim
theorem card_lenI {gl : Globs} : FnOKs Try.prog gl 14 cLenI := by
  refine FnOKs_id card_len fun ls hc => ?_
  unfold ldC at hc
  split at hc
  · obtain ⟨p, _⟩ := hc
    exact ⟨by simp only [nfLd]; rw [← p.qf, ← p.qh], rfl⟩
  · exact hc.1.elim
theorem card_ldI {gl : Globs} : FnOKs Try.prog gl 16 cLdI := by
  refine FnOKs_id card_lck fun ls hc => ?_
  unfold ldC at hc
  split at hc
  · obtain ⟨p, _⟩ := hc
    exact ⟨by simp only [nfLd]; rw [← p.qf, ← p.qh], rfl⟩
  · exact hc.1.elim
theorem card_rdI {gl : Globs} : FnOKs Try.prog gl 15 cRdI := by
  refine FnOKs_id card_rd fun ls hc => ?_
  unfold rdC at hc
  split at hc
  · obtain ⟨p, _⟩ := hc
    exact ⟨by simp only [nfRd]; rw [← p.nf], rfl⟩
  · exact hc.1.elim
theorem oks_Lk : ∀ p ∈ slLk, FnOKs Try.prog [] p.1 p.2 := oks_cons card_lo (oks_cons card_lenI (oks_cons card_rdI (oks_cons card_ldI (oks_cons card_sl oks_nil))))
theorem okx_Lk : CxOK Try.prog cxLk := okx_cons card_pkW (okx_mark (okx_mark (okx_mark (okx_mark okx_nil))))
end Go.Proofs.Ytamhchemnalfbaa
end

section
namespace Go.Proofs.Ytamhchemnalfbaa
open Go.Sx
set_option maxRecDepth 100000
structure bkP (N : Nat) (F : Nat → Int) (kd : Int) (am fe : Nat) (tk : Nat → Int) (hm : Int) (to : Nat → Int) (tc dc : Int) (sy : ByteArray) (m : Nat) (dk : Nat → Nat → Int) (ix : Int) (y : Nat) (kk : Nat → Nat → Int) : Prop where
  hb : ∀ i, i < N → 0 ≤ F i ∧ F i < 256
  h0 : rdE N F = 0
  e1 : kd = rKd N F
  e2 : am % M256 = rAm N F % M256
  e3 : fe % M256 = rFe N F % M256
  e4 : ∀ j, j < 32 → tk j = rTk N F j
  e5 : hm = rHm N F
  e6 : ∀ j, j < 32 → to j = rTo N F j
  e7 : tc = rTc N F
  e8 : dc = rDc N F
  e9 : sy = rSy N F
  e10 : m = rM N F
  e11 : ∀ i, i < m → dk i 0 = rDk F i 0
  e12 : ix = rIx N F
  e13 : y = rY N F
  e14 : ∀ i, i < y → ∀ c, c < 20 → kk i c = rKk N F i c
  ct : ∀ z, z < N - m → rdE z F = 4
theorem n2_big {F : Nat → Int} {o : Nat} {v : Int} (hv : 0 ≤ v ∧ v ≤ 65535) (h0 : F o = bigAt 2 v 0) (h1 : F (o + 1) = bigAt 2 v 1) : n2 F o = v := by
  unfold n2
  rw [h0, h1]
  show v / 256 ^ 1 % 256 * 256 + v / 256 ^ 0 % 256 = v
  rw [Int.pow_one, Int.pow_zero, Int.ediv_one]
  omega
theorem n4_big {F : Nat → Int} {o : Nat} {v : Int} (hv : 0 ≤ v ∧ v ≤ 4294967295) (h0 : F o = bigAt 4 v 0) (h1 : F (o + 1) = bigAt 4 v 1) (h2 : F (o + 2) = bigAt 4 v 2) (h3 : F (o + 3) = bigAt 4 v 3) : n4 F o = v := by
  unfold n4
  rw [h0, h1, h2, h3]
  show ((v / 16777216 % 256 * 256 + v / 65536 % 256) * 256 + v / 256 ^ 1 % 256) * 256 + v / 256 ^ 0 % 256 = v
  rw [Int.pow_one, Int.pow_zero, Int.ediv_one]
  omega
theorem big_rng (n : Nat) (v : Int) (j : Nat) : 0 ≤ bigAt n v j ∧ bigAt n v j < 256 := by
  unfold bigAt
  exact ⟨Int.emod_nonneg _ (by decide), Int.emod_lt_of_pos _ (by decide)⟩
theorem by8_rng (a i : Nat) : 0 ≤ by8 a i ∧ by8 a i < 256 := by
  unfold by8
  omega
section
variable {kd : Int} {am fe : Nat} {tk : Nat → Int} {hm : Int} {to : Nat → Int} {tc : Int} {dk : Nat → Nat → Int}
theorem t13_0 : e13 kd am fe tk hm to tc dk 0 = kd := if_pos (by omega)
theorem t13_1 {j : Nat} (h : j < 32) : e13 kd am fe tk hm to tc dk (1 + j) = by8 am (31 - j) := by
  unfold e13; rw [if_neg (by omega), if_pos (by omega)]; congr 1; omega
theorem t13_2 {j : Nat} (h : j < 32) : e13 kd am fe tk hm to tc dk (33 + j) = tk j := by
  unfold e13; rw [if_neg (by omega), if_neg (by omega), if_pos (by omega)]; congr 1; omega
theorem t13_3 {j : Nat} (h : j < 2) : e13 kd am fe tk hm to tc dk (65 + j) = bigAt 2 hm j := by
  unfold e13; rw [if_neg (by omega), if_neg (by omega), if_neg (by omega), if_pos (by omega)]; congr 1; omega
theorem t13_4 {j : Nat} (h : j < 32) : e13 kd am fe tk hm to tc dk (67 + j) = to j := by
  unfold e13; rw [if_neg (by omega), if_neg (by omega), if_neg (by omega), if_neg (by omega), if_pos (by omega)]; congr 1; omega
theorem t13_5 {j : Nat} (h : j < 2) : e13 kd am fe tk hm to tc dk (99 + j) = bigAt 2 tc j := by
  unfold e13; rw [if_neg (by omega), if_neg (by omega), if_neg (by omega), if_neg (by omega), if_neg (by omega), if_pos (by omega)]; congr 1; omega
theorem t13_6 {j : Nat} (h : j < 32) : e13 kd am fe tk hm to tc dk (101 + j) = by8 fe (31 - j) := by
  unfold e13; rw [if_neg (by omega), if_neg (by omega), if_neg (by omega), if_neg (by omega), if_neg (by omega), if_neg (by omega), if_pos (by omega)]; congr 1; omega
theorem t13_7 {j : Nat} : e13 kd am fe tk hm to tc dk (133 + j) = dk j 0 := by
  unfold e13; rw [if_neg (by omega), if_neg (by omega), if_neg (by omega), if_neg (by omega), if_neg (by omega), if_neg (by omega), if_neg (by omega)]; congr 1; omega
theorem t13_in {m : Nat} (hk : 0 ≤ kd ∧ kd < 256) (ht : ∀ j, j < 32 → 0 ≤ tk j ∧ tk j < 256) (ho : ∀ j, j < 32 → 0 ≤ to j ∧ to j < 256) (hd : ∀ i, i < m → 0 ≤ dk i 0 ∧ dk i 0 < 256) {i : Nat} (hi : i < 133 + m) : 0 ≤ e13 kd am fe tk hm to tc dk i ∧ e13 kd am fe tk hm to tc dk i < 256 := by
  unfold e13
  split
  · exact hk
  split
  · exact by8_rng _ _
  split
  · exact ht _ (by omega)
  split
  · exact big_rng _ _ _
  split
  · exact ho _ (by omega)
  split
  · exact big_rng _ _ _
  split
  · exact by8_rng _ _
  · exact hd _ (by omega)
theorem bk_13 {m N : Nat} {F : Nat → Int} (hF : F = e13 kd am fe tk hm to tc dk) (hN : N = 133 + m) (hk : kd = 1 ∨ kd = 3) (hh : 0 ≤ hm ∧ hm ≤ 65535) (hc : 0 ≤ tc ∧ tc ≤ 65535) (hle : fe % M256 ≤ am % M256) (h1 : kd = 1 → m = 0) (hm' : m ≤ 100)
    (ht : ∀ j, j < 32 → 0 ≤ tk j ∧ tk j < 256) (ho : ∀ j, j < 32 → 0 ≤ to j ∧ to j < 256) (hd : ∀ i, i < m → 0 ≤ dk i 0 ∧ dk i 0 < 256) {kk : Nat → Nat → Int} :
    bkP N F kd am fe tk hm to tc 0 ⟨#[]⟩ m dk 0 0 kk := by
  have k0 : F 0 = kd := by rw [hF]; exact t13_0
  have k1 : dAm F = am % M256 := fr_big fun j hj => by rw [hF]; exact t13_1 hj
  have k6 : dFe F = fe % M256 := fr_big fun j hj => by rw [hF]; exact t13_6 hj
  have k3 : n2 F 65 = hm := n2_big hh (by rw [hF]; exact t13_3 (j := 0) (by omega)) (by rw [hF]; exact t13_3 (j := 1) (by omega))
  have k5 : n2 F 99 = tc := n2_big hc (by rw [hF]; exact t13_5 (j := 0) (by omega)) (by rw [hF]; exact t13_5 (j := 1) (by omega))
  have hcmp : cmpN (dFe F) (dAm F) ≤ 0 := by rw [k1, k6]; exact cmp_le.2 (by rw [Nat.mod_mod, Nat.mod_mod]; exact hle)
  have hb : ∀ i, i < N → 0 ≤ F i ∧ F i < 256 := fun i hi => by rw [hF]; exact t13_in (by omega) ht ho hd (by omega)
  have ct : ∀ z, z < N - m → rdE z F = 4 := fun z hz => by
    unfold rdE
    rw [k0]
    split
    · rfl
    · rcases hk with h | h
      · rw [if_pos h]; exact if_pos (by omega)
      · rw [if_neg (by omega), if_pos h]; exact if_pos (by omega)
  have h0 : rdE N F = 0 := by
    unfold rdE
    rw [if_neg (by omega), k0]
    rcases hk with h | h
    · rw [if_pos h]
      unfold rdE1
      have := h1 h
      rw [if_neg (by omega), if_pos ⟨by omega, hcmp⟩]
    · rw [if_neg (by omega), if_pos h]
      unfold rdE3
      rw [if_neg (by omega), if_pos ⟨by omega, hcmp⟩]
  have q4 : ∀ j, j < 32 → tk j = F (33 + j) := fun j hj => by rw [hF]; exact (t13_2 hj).symm
  have q6 : ∀ j, j < 32 → to j = F (67 + j) := fun j hj => by rw [hF]; exact (t13_4 hj).symm
  have q11 : ∀ i, i < m → dk i 0 = rDk F i 0 := fun i _ => by unfold rDk; rw [hF]; exact t13_7.symm
  rcases hk with h | h
  · obtain ⟨r1, r2, r3, r4, r5, r6, r7, r8, r9, r10, r11, r12⟩ := rf_1 (k0.trans h) h0
    exact ⟨hb, h0, by rw [r1, h], by rw [r2, k1, Nat.mod_mod], by rw [r3, k6, Nat.mod_mod], fun j hj => by rw [r4]; exact q4 j hj, by rw [r5, k3], fun j hj => by rw [r6]; exact q6 j hj, by rw [r7, k5], r8.symm, r9.symm, by rw [r10]; exact h1 h, q11, r11.symm, r12.symm, fun i hi => by omega, ct⟩
  · obtain ⟨r1, r2, r3, r4, r5, r6, r7, r8, r9, r10, r11, r12⟩ := rf_3 (k0.trans h) h0
    exact ⟨hb, h0, by rw [r1, h], by rw [r2, k1, Nat.mod_mod], by rw [r3, k6, Nat.mod_mod], fun j hj => by rw [r4]; exact q4 j hj, by rw [r5, k3], fun j hj => by rw [r6]; exact q6 j hj, by rw [r7, k5], r8.symm, r9.symm, by rw [r10]; omega, q11, r11.symm, r12.symm, fun i hi => by omega, ct⟩
end
theorem trimN_last (s : ByteArray) : ∀ n j, trimN s n = j + 1 → ((s.data.getD j 0).toNat : Int) ≠ 0
  | 0, j, h => by cases h
  | n + 1, j, h => by
    unfold trimN at h
    split at h
    · exact trimN_last s n j h
    · rename_i h0
      obtain rfl : n = j := by omega
      exact h0
theorem ext_getD {s t : ByteArray} (hz : s.size = t.size) (h : ∀ j, j < s.size → s.data.getD j 0 = t.data.getD j 0) : s = t := by
  apply ByteArray.ext
  apply Array.ext hz
  intro i h1 h2
  have := h i h1
  rw [Array.getD_eq_getD_getElem?, Array.getD_eq_getD_getElem?, Array.getElem?_eq_getElem h1, Array.getElem?_eq_getElem h2] at this
  exact this
theorem nul_no {s : ByteArray} (h : hasNul s = false) {j : Nat} (hj : j < s.size) : ((s.data.getD j 0).toNat : Int) ≠ 0 := by
  intro e
  have : hasNul s = true := by
    unfold hasNul
    rw [List.any_eq_true]
    refine ⟨j, List.mem_range.2 hj, beq_iff_eq.2 ?_⟩
    exact UInt8.toNat_inj.1 (by rw [show ((0 : UInt8).toNat) = 0 from rfl]; omega)
  rw [h] at this; cases this
theorem sym_read {F : Nat → Int} {sy : ByteArray} (hs : sy.size ≤ 32) (hn : hasNul sy = false) (h : ∀ j, j < 32 → F (36 + j) = if j < sy.size then ((sy.data.getD j 0).toNat : Int) else 0) : dSy F = sy := by
  have hz := f32_sz fun j => F (36 + j)
  have hr : ∀ j, j < 32 → 0 ≤ F (36 + j) ∧ F (36 + j) < 256 := fun j hj => by
    rw [h j hj]
    split
    · have := (sy.data.getD j (0 : UInt8)).toNat_lt; omega
    · omega
  have hB : ∀ j, j < 32 → (((bytesI (intsL [SK.f .u8 32 fun j => F (36 + j)])).data.getD j 0).toNat : Int) = if j < sy.size then ((sy.data.getD j 0).toNat : Int) else 0 := fun j hj => (sym_byte hj (hr j hj)).trans (h j hj)
  unfold dSy trimT
  rw [hz]
  generalize bytesI (intsL [SK.f .u8 32 fun j => F (36 + j)]) = B at hz hB ⊢
  have hl := trimN_le B 32
  have ht : trimN B 32 = sy.size := by
    rcases Nat.lt_trichotomy (trimN B 32) sy.size with c | c | c
    · have e := trimN_nul B 32 (trimN B 32) (Nat.le_refl _) (by omega)
      rw [hB _ (by omega), if_pos c] at e
      exact absurd e (nul_no hn c)
    · exact c
    · obtain ⟨j, hj⟩ : ∃ j, trimN B 32 = j + 1 := ⟨trimN B 32 - 1, by omega⟩
      have e := trimN_last B 32 j hj
      rw [hB _ (by omega), if_neg (by omega)] at e
      exact absurd rfl e
  rw [ht]
  have h1 : (B.extract 0 sy.size).size = sy.size := ext_size _ _ (by omega)
  refine ext_getD h1 fun j hj => ?_
  rw [h1] at hj
  rw [ext_get _ _ _ (by omega) hj]
  have e := hB j (by omega)
  rw [if_pos hj] at e
  exact UInt8.toNat_inj.1 (by omega)
theorem bk_2 {tk : Nat → Int} {hm dc : Int} {sy : ByteArray} {N : Nat} {F : Nat → Int} (hF : F = e2 tk hm dc sy) (hN : N = 68) (hh : 0 ≤ hm ∧ hm ≤ 65535) (hd : 0 ≤ dc ∧ dc ≤ 77) (hs : sy.size ≤ 32) (hn : hasNul sy = false)
    (ht : ∀ j, j < 32 → 0 ≤ tk j ∧ tk j < 256) {am fe : Nat} (ha : am % M256 = 0) (hf : fe % M256 = 0) {to : Nat → Int} (ho : ∀ j, j < 32 → to j = 0) {dk kk : Nat → Nat → Int} : bkP N F 2 am fe tk hm to 0 dc sy 0 dk 0 0 kk := by
  have k0 : F 0 = 2 := by rw [hF]; exact if_pos (by omega)
  have k1 : ∀ j, j < 32 → tk j = F (1 + j) := fun j hj => by rw [hF]; unfold e2; rw [if_neg (by omega), if_pos (by omega)]; congr 1; omega
  have k3 : n2 F 33 = hm := n2_big hh (by rw [hF]; unfold e2; rw [if_neg (by omega), if_neg (by omega), if_pos (by omega)]) (by rw [hF]; unfold e2; rw [if_neg (by omega), if_neg (by omega), if_pos (by omega)])
  have k4 : F 35 = dc := by
    rw [hF]; unfold e2; rw [if_neg (by omega), if_neg (by omega), if_neg (by omega), if_pos (by omega), bigAt_one _ _ (by omega)]; omega
  have k5 : ∀ j, j < 32 → F (36 + j) = if j < sy.size then ((sy.data.getD j 0).toNat : Int) else 0 := fun j _ => by
    rw [hF]; unfold e2
    rw [if_neg (by omega), if_neg (by omega), if_neg (by omega), if_neg (by omega), show 36 + j - 36 = j by omega]
  have k6 : dSy F = sy := sym_read hs hn k5
  have hb : ∀ i, i < N → 0 ≤ F i ∧ F i < 256 := fun i hi => by
    rw [hF]; unfold e2
    split
    · omega
    split
    · exact ht _ (by omega)
    split
    · exact big_rng _ _ _
    split
    · exact big_rng _ _ _
    split
    · have := (sy.data.getD (i - 36) (0 : UInt8)).toNat_lt; omega
    · omega
  have ct : ∀ z, z < N - 0 → rdE z F = 4 := fun z hz => by
    unfold rdE
    split
    · rfl
    · rw [if_neg (by omega), if_neg (by omega)]; first | exact if_pos (by omega) | (rw [if_pos k0]; exact if_pos (by omega))
  have h0 : rdE N F = 0 := by
    unfold rdE
    rw [if_neg (by omega), if_neg (by omega), if_neg (by omega), if_pos k0]
    unfold rdE2
    rw [if_neg (by omega), k4, k6, if_pos ⟨hN, hd.2, hn⟩]
  obtain ⟨r1, r2, r3, r4, r5, r6, r7, r8, r9, r10, r11, r12⟩ := rf_2 k0 h0
  exact ⟨hb, h0, r1.symm, by rw [r2, ha, Nat.zero_mod], by rw [r3, hf, Nat.zero_mod], fun j hj => by rw [r4]; exact k1 j hj, by rw [r5, k3], fun j hj => by rw [r6]; exact ho j hj, r7.symm, by rw [r8, k4], by rw [r9, k6], r10.symm, fun i hi => by omega, r11.symm, r12.symm, fun i hi => by omega, ct⟩
theorem bk_4 {ix : Int} {y : Nat} {kk : Nat → Nat → Int} {N : Nat} {F : Nat → Int} (hF : F = turnF ix y kk) (hN : N = 6 + 20 * y) (hi : 0 ≤ ix ∧ ix ≤ 4294967295) (hy : 0 < y) (hy' : y ≤ 19) (hk : ∀ i, i < y → ∀ c, c < 20 → 0 ≤ kk i c ∧ kk i c < 256)
    {am fe : Nat} (ha : am % M256 = 0) (hf : fe % M256 = 0) {tk to : Nat → Int} (ht : ∀ j, j < 32 → tk j = 0) (ho : ∀ j, j < 32 → to j = 0) {dk : Nat → Nat → Int} : bkP N F 4 am fe tk 0 to 0 0 ⟨#[]⟩ 0 dk ix y kk := by
  have k0 : F 0 = 4 := by rw [hF]; exact if_pos (by omega)
  have k1 : ∀ j, j < 4 → F (1 + j) = bigAt 4 ix j := fun j hj => by rw [hF]; unfold turnF; rw [if_neg (by omega), if_pos (by omega)]; congr 1; omega
  have k2 : F 5 = (y : Int) := by rw [hF]; unfold turnF; rw [if_neg (by omega), if_neg (by omega), if_pos (by omega)]; omega
  have k3 : ∀ i c, c < 20 → F (6 + 20 * i + c) = kk i c := fun i c hc => by
    rw [hF]; unfold turnF
    rw [if_neg (by omega), if_neg (by omega), if_neg (by omega), show (6 + 20 * i + c - 6) / 20 = i by omega, show (6 + 20 * i + c - 6) % 20 = c by omega]
  have hb : ∀ i, i < N → 0 ≤ F i ∧ F i < 256 := fun i hi => by
    rw [hF]; unfold turnF
    split
    · omega
    split
    · exact big_rng _ _ _
    split
    · omega
    · exact hk _ (by omega) _ (by omega)
  have dy : ∀ z, 5 < z → dY z F = y := fun z hz => by unfold dY; rw [if_pos hz, k2, Int.toNat_natCast]
  have ct : ∀ z, z < N - 0 → rdE z F = 4 := fun z hz => by
    unfold rdE
    split
    · rfl
    · rw [if_neg (by omega), if_neg (by omega), if_neg (by omega)]
      refine if_pos ?_
      by_cases c : 5 < z
      · rw [dy z c]; omega
      · omega
  have h0 : rdE N F = 0 := by
    unfold rdE
    rw [if_neg (by omega), if_neg (by omega), if_neg (by omega), if_neg (by omega), if_pos k0]
    unfold rdE4
    rw [dy N (by omega), if_neg (by omega), if_pos ⟨hN, hy, hy'⟩]
  have hB : ∀ p, p < N → bAt N (fun i _ => F i) p = F p := fun p hp => bAt_ix (fun _ => rfl) hp
  have k4 : n4 (bAt N fun i _ => F i) 1 = ix := n4_big hi (by rw [hB _ (by omega)]; exact k1 0 (by omega)) (by rw [hB _ (by omega)]; exact k1 1 (by omega)) (by rw [hB _ (by omega)]; exact k1 2 (by omega)) (by rw [hB _ (by omega)]; exact k1 3 (by omega))
  obtain ⟨r1, r2, r3, r4, r5, r6, r7, r8, r9, r10, r11, r12⟩ := rf_4 k0 h0
  exact ⟨hb, h0, r1.symm, by rw [r2, ha, Nat.zero_mod], by rw [r3, hf, Nat.zero_mod], fun j hj => by rw [r4]; exact ht j hj, r5.symm, fun j hj => by rw [r6]; exact ho j hj, r7.symm, r8.symm, r9.symm, r10.symm, fun i hi => by omega, by rw [r11, k4], by rw [r12, dy N (by omega)], fun i hi c hc => by unfold rKk; rw [hB _ (by omega), k3 i c hc], ct⟩
end Go.Proofs.Ytamhchemnalfbaa
end

section
namespace Go.Proofs.Ytamhchemnalfbaa
open Go.Sx
set_option maxRecDepth 100000
theorem ldE_0 {kd : Int} {am fe : Nat} {tk : Nat → Int} {hm : Int} {to : Nat → Int} {tc dc : Int} {sy : ByteArray} {m : Nat} {ix : Int} {y : Nat} (hk : kd = 1 ∨ kd = 2 ∨ kd = 3 ∨ kd = 4) (h : ldGood kd am fe tk hm to tc dc sy m ix y) : ldE kd am fe tk hm to tc dc sy m ix y = 0 := by
  unfold ldE; rw [if_pos hk, if_pos h]
theorem wrd_in (a b : Int) (s : ByteArray) (j : Nat) : 0 ≤ wordF a b s j ∧ wordF a b s j < 256 := by
  unfold wordF
  split
  · rw [IntKind.wrap_u8]; omega
  · split
    · rw [IntKind.wrap_u8]; omega
    · split
      · have := (s.data.getD j (0 : UInt8)).toNat_lt; omega
      · omega
theorem cu_in (s : ByteArray) (i : Nat) : 0 ≤ cuF s i ∧ cuF s i < 256 := by
  unfold cuF
  have := ((s.extract 0 (cuL s)).data.getD i (0 : UInt8)).toNat_lt; omega
theorem ky_in (A B : Nat → Int) (i c : Nat) : 0 ≤ kyF A B i c ∧ kyF A B i c < 256 := by
  rcases c with _ | _ | _ | c
  · show 0 ≤ IntKind.u8.wrap _ ∧ IntKind.u8.wrap _ < 256
    rw [IntKind.wrap_u8]; omega
  · show 0 ≤ IntKind.u8.wrap _ ∧ IntKind.u8.wrap _ < 256
    rw [IntKind.wrap_u8]; omega
  · show 0 ≤ IntKind.u8.wrap _ ∧ IntKind.u8.wrap _ < 256
    rw [IntKind.wrap_u8]; omega
  · show (0 : Int) ≤ 0 ∧ (0 : Int) < 256
    decide
theorem nul_of {s : ByteArray} (h : ∀ j, j < s.size → ((s.data.getD j 0).toNat : Int) ≠ 0) : hasNul s = false := by
  cases e : hasNul s
  · rfl
  · unfold hasNul at e
    rw [List.any_eq_true] at e
    obtain ⟨j, hj, hz⟩ := e
    refine absurd ?_ (h j (List.mem_range.1 hj))
    rw [beq_iff_eq.1 hz]
    rfl
theorem sym_nul {v w : Int} (hv : 0 ≤ v ∧ v < 26) (hw : 0 ≤ w ∧ w < 3) : ((symT v).extract 0 w.toNat).size ≤ 32 ∧ hasNul ((symT v).extract 0 w.toNat) = false := by
  have hz : ((symT v).extract 0 w.toNat).size = w.toNat := ext_size _ _ (by rw [sym_sz]; omega)
  refine ⟨by omega, nul_of fun j hj => ?_⟩
  rw [hz] at hj
  rw [ext_get _ _ _ (by rw [sym_sz]; omega) hj]
  have e1 : IntKind.u8.wrap (97 + IntKind.u8.wrap v) = 97 + v := by
    have : IntKind.u8.wrap v = v := by rw [IntKind.wrap_u8]; omega
    rw [this, IntKind.wrap_u8]; omega
  rcases (by omega : j = 0 ∨ j = 1) with rfl | rfl
  · have := byI_cell (l := intsL [SK.c (SC.val (Value.int .u8 (IntKind.u8.wrap (97 + IntKind.u8.wrap v)))), SK.c (SC.num .u8 122)]) (i := 0) (x := IntKind.u8.wrap (97 + IntKind.u8.wrap v)) rfl (by rw [e1]; omega)
    unfold symT
    rw [this, e1]
    omega
  · have := byI_cell (l := intsL [SK.c (SC.val (Value.int .u8 (IntKind.u8.wrap (97 + IntKind.u8.wrap v)))), SK.c (SC.num .u8 122)]) (i := 1) (x := 122) rfl (by decide)
    unfold symT
    rw [this]
    decide
theorem cmp_lt0 {X Y : Nat} : cmpN X Y < 0 ↔ X % M256 < Y % M256 := by
  unfold cmpN
  constructor
  · intro h
    split at h
    · assumption
    · split at h <;> omega
  · intro h
    rw [if_pos h]
    decide
theorem lo_le {q : Int} {X Y : Nat} (hq : 2 ≤ q) : loFe q X Y % M256 ≤ loAm q X Y % M256 := by
  by_cases c : cmpN X Y < 0
  · obtain ⟨e1, e2⟩ := lo_lt hq c
    rw [e1, e2]
    exact Nat.le_of_lt (cmp_lt0.1 c)
  · obtain ⟨e1, e2⟩ := lo_ge hq c
    rw [e1, e2]
    exact Nat.le_of_not_lt fun h => c (cmp_lt0.2 h)
theorem lo_bk {q xa xb ya yb : Int} {xs ys : ByteArray} {X Y n : Nat} {A B : Nat → Int} (hq : q = 0 ∨ q = 1 ∨ q = 2 ∨ q = 3) :
    ldE (loKd q) (loAm q X Y) (loFe q X Y) (loTk q xa xb xs ya yb ys) (loHm q xb ya) (loTo q xa xb xs) (loTc q yb) (loDc q xa) (loSy q xb yb) (loM q xs) (loIx q xa) (loY q n) = 0 ∧
    bkP (ldN (loKd q) (loM q xs) (loY q n)) (ldB (loKd q) (loAm q X Y) (loFe q X Y) (loTk q xa xb xs ya yb ys) (loHm q xb ya) (loTo q xa xb xs) (loTc q yb) (loDc q xa) (loSy q xb yb) (fun i _ => cuF xs i) (loIx q xa) (loY q n) (loKk xa xb A B))
      (loKd q) (loAm q X Y) (loFe q X Y) (loTk q xa xb xs ya yb ys) (loHm q xb ya) (loTo q xa xb xs) (loTc q yb) (loDc q xa) (loSy q xb yb) (loM q xs) (fun i _ => cuF xs i) (loIx q xa) (loY q n) (loKk xa xb A B) := by
  have r6 : ∀ z : Int, 0 ≤ z % 65536 ∧ z % 65536 ≤ 65535 := fun z => by omega
  rcases hq with rfl | rfl | rfl | rfl
  · obtain ⟨s1, s2⟩ := sym_nul (v := xb % 26) (w := yb % 3) (by omega) (by omega)
    have g : ldGood 2 0 0 (wordF xa xb xs) (ya % 65536) (fun _ => 0) 0 (xa % 78) ((symT (xb % 26)).extract 0 (yb % 3).toNat) 0 0 0 :=
      .inr (.inl ⟨rfl, r6 ya, ⟨by omega, by omega⟩, s1, s2, Nat.zero_mod _, Nat.zero_mod _, fun _ _ => rfl, rfl, rfl, rfl, rfl⟩)
    exact ⟨ldE_0 (.inr (.inl rfl)) g, bk_2 (tk := wordF xa xb xs) (hm := ya % 65536) (dc := xa % 78) (sy := (symT (xb % 26)).extract 0 (yb % 3).toNat) rfl rfl (r6 ya) ⟨by omega, by omega⟩ s1 s2 (fun j _ => wrd_in _ _ _ j) (am := 0) (fe := 0) (Nat.zero_mod _) (Nat.zero_mod _) (to := fun _ => 0) fun _ _ => rfl⟩
  · have g : ldGood 4 0 0 (fun _ => 0) 0 (fun _ => 0) 0 0 ⟨#[]⟩ 0 (xa % 4294967296) (1 + min n 18) :=
      .inr (.inr ⟨rfl, ⟨by omega, by omega⟩, by omega, by omega, Nat.zero_mod _, Nat.zero_mod _, fun _ _ => rfl, rfl, fun _ _ => rfl, rfl, rfl, rfl, rfl⟩)
    exact ⟨ldE_0 (.inr (.inr (.inr rfl))) g, bk_4 (ix := xa % 4294967296) (y := 1 + min n 18) (kk := loKk xa xb A B) rfl rfl ⟨by omega, by omega⟩ (by omega) (by omega) (fun i _ c _ => ky_in _ _ i c) (am := 0) (fe := 0) (Nat.zero_mod _) (Nat.zero_mod _) (tk := fun _ => 0) (to := fun _ => 0) (fun _ _ => rfl) fun _ _ => rfl⟩
  · have hl := lo_le (q := 2) (X := X) (Y := Y) (by decide)
    have g : ldGood 1 (loAm 2 X Y) (loFe 2 X Y) (wordF ya yb ys) (xb % 65536) (wordF xa xb xs) (yb % 65536) 0 ⟨#[]⟩ 0 0 0 :=
      .inl ⟨.inl rfl, r6 xb, r6 yb, hl, rfl, rfl, by omega, fun _ => rfl, rfl, rfl⟩
    exact ⟨ldE_0 (.inl rfl) g, bk_13 (kd := 1) (am := loAm 2 X Y) (fe := loFe 2 X Y) (tk := wordF ya yb ys) (hm := xb % 65536) (to := wordF xa xb xs) (tc := yb % 65536) (dk := fun i _ => cuF xs i) (m := 0) rfl rfl (.inl rfl) (r6 xb) (r6 yb) hl (fun _ => rfl) (by omega) (fun j _ => wrd_in _ _ _ j) (fun j _ => wrd_in _ _ _ j) fun i _ => cu_in xs i⟩
  · have hl := lo_le (q := 3) (X := X) (Y := Y) (by decide)
    have hc : cuL xs ≤ 100 := Nat.min_le_right _ _
    have g : ldGood 3 (loAm 3 X Y) (loFe 3 X Y) (wordF ya yb ys) (xb % 65536) (wordF xa xb xs) (yb % 65536) 0 ⟨#[]⟩ (cuL xs) 0 0 :=
      .inl ⟨.inr rfl, r6 xb, r6 yb, hl, rfl, rfl, hc, fun h => absurd h (by decide), rfl, rfl⟩
    exact ⟨ldE_0 (.inr (.inr (.inl rfl))) g, bk_13 (kd := 3) (am := loAm 3 X Y) (fe := loFe 3 X Y) (tk := wordF ya yb ys) (hm := xb % 65536) (to := wordF xa xb xs) (tc := yb % 65536) (dk := fun i _ => cuF xs i) (m := cuL xs) rfl rfl (.inr rfl) (r6 xb) (r6 yb) hl (fun h => absurd h (by decide)) hc (fun j _ => wrd_in _ _ _ j) (fun j _ => wrd_in _ _ _ j) fun i _ => cu_in xs i⟩
end Go.Proofs.Ytamhchemnalfbaa
end

section
namespace Go.Proofs.Ytamhchemnalfbaa
open Go.Sx
set_option maxRecDepth 100000
theorem lo_n {q : Int} {xs : ByteArray} {n : Nat} (hq : q = 0 ∨ q = 1 ∨ q = 2 ∨ q = 3) : ldN (loKd q) (loM q xs) (loY q n) ≤ 400 ∧ loM q xs + 6 ≤ ldN (loKd q) (loM q xs) (loY q n) ∧ loY q n ≤ 19 := by
  have hc : cuL xs ≤ 100 := Nat.min_le_right _ _
  rcases hq with rfl | rfl | rfl | rfl
  · show 68 ≤ 400 ∧ 0 + 6 ≤ 68 ∧ 0 ≤ 19
    decide
  · show 6 + 20 * (1 + min n 18) ≤ 400 ∧ 0 + 6 ≤ 6 + 20 * (1 + min n 18) ∧ 1 + min n 18 ≤ 19
    omega
  · show 133 ≤ 400 ∧ 0 + 6 ≤ 133 ∧ 0 ≤ 19
    decide
  · show 133 + cuL xs ≤ 400 ∧ cuL xs + 6 ≤ 133 + cuL xs ∧ 0 ≤ 19
    omega
theorem lo_sy {q xb yb : Int} (hq : q = 0 ∨ q = 1 ∨ q = 2 ∨ q = 3) : (loSy q xb yb).size ≤ 2 := by
  rcases hq with rfl | rfl | rfl | rfl
  · show ((symT (xb % 26)).extract 0 (yb % 3).toNat).size ≤ 2
    rw [ByteArray.size_extract, sym_sz]
    omega
  all_goals
    show (ByteArray.mk #[]).size ≤ 2
    decide
theorem ok_LoadBack (k xk xa xb : Int) (xs : ByteArray) (yk ya yb : Int) (ys : ByteArray) (a : Option Addr) (n cap : Nat) (K A B : Nat → Int) (s : Nat → ByteArray) (at_ : Int) (hk : i64ok k) (hx : rawP xk xa xb xs) (hy : rawP yk ya yb ys) (ha : a = none → n = 0) (hn : n ≤ maxLen) (hat : i64ok at_) :
    OwesV Try.prog cxLk slLk [] 30 Try.f5 [sI .i64 k, sRaw xk xa xb xs, sRaw yk ya yb ys, .sc (.xs a n cap 4 (rawF K A B s)), sI .i64 at_] yes := by
  rw [vc_LoadBack]
  intro x1 x2 x3 x4 x5 x6 x7 x8 x9 x10 x11 x12 x13 x14 x15 x16 x17 x18 x19 x20 x21 x22 x23 x24 x25 x26 x27 x28 x29 x30
  have q0 := Int.emod_nonneg k (show (4 : Int) ≠ 0 by decide)
  have q4 := Int.emod_lt_of_pos k (show (0 : Int) < 4 by decide)
  have hq : x1 = 0 ∨ x1 = 1 ∨ x1 = 2 ∨ x1 = 3 := (by omega : k % 4 = 0 ∨ k % 4 = 1 ∨ k % 4 = 2 ∨ k % 4 = 3)
  obtain ⟨hE, P⟩ := lo_bk (q := x1) (xa := xa) (xb := xb) (ya := ya) (yb := yb) (xs := xs) (ys := ys) (X := rawN xk xa xb) (Y := rawN yk ya yb) (n := n) (A := A) (B := B) hq
  obtain ⟨n1, n2, n3⟩ := lo_n (q := x1) (xs := xs) (n := n) hq
  have hsy := lo_sy (q := x1) (xb := xb) (yb := yb) hq
  have e11 : x11 = 0 := hE
  have e12 : x12 = ldN (loKd x1) (loM x1 xs) (loY x1 n) := if_pos e11
  rw [← e12] at P n1 n2
  have hMm : loM x1 xs = x2 := rfl
  have hYy : loY x1 n = x3 := rfl
  rw [hMm] at n2
  rw [hYy] at n3
  have e15 : x15 = (x12 : Int) := rfl
  have e16 : x16 = (x12 : Int) - (x2 : Int) := by show IntKind.i64.wrap ((x12 : Int) - (x2 : Int)) = _; rw [IntKind.wrap_i64]; omega
  have e17 : x17 = x16 := by show (if (1 : Int) > x16 then (1 : Int) else x16) = x16; rw [if_neg (by omega)]
  have h18 : 0 ≤ x18 ∧ x18 < x17 := ⟨Int.emod_nonneg _ (by omega), Int.emod_lt_of_pos _ (by omega)⟩
  have h19 : x19 < x12 - x2 := by have h : x19 = x18.toNat := rfl; omega
  have c4 : rdE x19 (fun i => ldB x4 x5 x6 (loTk x1 xa xb xs ya yb ys) x7 (loTo x1 xa xb xs) x8 x9 (loSy x1 xb yb) (fun i _ => cuF xs i) x10 x3 (loKk xa xb A B) i) = 4 := P.ct x19 h19
  have b17 : 0 < x17 ∧ x17 ≤ 1099511627776 := by omega
  have b18 : 0 ≤ x18 ∧ x18 ≤ x15 := by omega
  have hat' : -9223372036854775808 ≤ at_ ∧ at_ ≤ 9223372036854775807 := hat
  have e22 : x22 = true := by show (x11 == 0) = true; rw [e11]; rfl
  have e23 : x23 = true := by show (x22 && x22) = true; rw [e22]; rfl
  have hlo : loP a n (rawF K A B s) k xk xa xb yk ya yb xs ys := ⟨rfl, hk, hx, hy, ha, hn⟩
  have hld : ∀ (a a' : Option Addr), (a = none → x2 = 0) → (a' = none → x3 = 0) → ldQ (loSy x1 xb yb) a x2 (u8F fun i _ => cuF xs i) a' x3 (u8F (loKk xa xb A B)) := fun a a' h h' => ⟨rfl, rfl, by omega, by omega, h, h'⟩
  have hrd : ∀ (a : Option Addr) z, z ≤ x12 → (a = none → x12 = 0) → rdP a z (fun (i x : Nat) => SC.val (Value.int .u8 (ldB x4 x5 x6 (loTk x1 xa xb xs ya yb ys) x7 (loTo x1 xa xb xs) x8 x9 (loSy x1 xb yb) (kOf (u8F fun (i x : Nat) => cuF xs i)) x10 x3 (kOf (u8F (loKk xa xb (nOf (rawF K A B s) 1) (nOf (rawF K A B s) 2)))) i))) := fun a z hz h => ⟨rfl, fun i hi => P.hb i (by omega), by omega, fun e => by have := h e; omega⟩
  have hsl : slP x4 x5 x6 (loTk x1 xa xb xs ya yb ys) x7 (loTo x1 xa xb xs) x8 x9 (loSy x1 xb yb) x2 (u8F fun i _ => cuF xs i) x10 x3 (u8F (loKk xa xb A B)) x24 x25 x26 (rTk x12 (ldB x4 x5 x6 (loTk x1 xa xb xs ya yb ys) x7 (loTo x1 xa xb xs) x8 x9 (loSy x1 xb yb) (fun i _ => cuF xs i) x10 x3 (loKk xa xb A B))) x27 (rTo x12 (ldB x4 x5 x6 (loTk x1 xa xb xs ya yb ys) x7 (loTo x1 xa xb xs) x8 x9 (loSy x1 xb yb) (fun i _ => cuF xs i) x10 x3 (loKk xa xb A B))) x28 x29 (rSy x12 (ldB x4 x5 x6 (loTk x1 xa xb xs ya yb ys) x7 (loTo x1 xa xb xs) x8 x9 (loSy x1 xb yb) (fun i _ => cuF xs i) x10 x3 (loKk xa xb A B))) x13 (u8F (rDk (ldB x4 x5 x6 (loTk x1 xa xb xs ya yb ys) x7 (loTo x1 xa xb xs) x8 x9 (loSy x1 xb yb) (fun i _ => cuF xs i) x10 x3 (loKk xa xb A B)))) x30 x14 (u8F (rKk x12 (ldB x4 x5 x6 (loTk x1 xa xb xs ya yb ys) x7 (loTo x1 xa xb xs) x8 x9 (loSy x1 xb yb) (fun i _ => cuF xs i) x10 x3 (loKk xa xb A B)))) :=
    ⟨rfl, rfl, rfl, rfl, P.e1, P.e2, P.e3, P.e4, P.e5, P.e6, P.e7, P.e8, P.e9, P.e10, P.e11, P.e12, P.e13, P.e14, by omega⟩
  have h0 : rdE x12 (fun i => ldB x4 x5 x6 (loTk x1 xa xb xs ya yb ys) x7 (loTo x1 xa xb xs) x8 x9 (loSy x1 xb yb) (fun i _ => cuF xs i) x10 x3 (loKk xa xb A B) i) = 0 := P.h0
  have k2 : ∀ k : Nat → Nat → Int, kOf (u8F k) = k := fun _ => rfl
  have k3 : nOf (rawF K A B s) 1 = A := rfl
  have k4 : nOf (rawF K A B s) 2 = B := rfl
  have k1 : ∀ (f : Nat → Int) (i : Nat), kOf (fun (i x : Nat) => SC.val (Value.int .u8 (f i))) i 0 = f i := fun _ _ => rfl
  clear_value x1 x2 x3 x4 x5 x6 x7 x8 x9 x10 x11 x12 x13 x14 x15 x16 x17 x18 x19 x20 x21 x22 x23 x24 x25 x26 x27 x28 x29 x30
  simp only [k2, k3, k4] at hrd
  simp only [k1, k2, k3, k4, eq_self, true_and, and_self, implies_true, imp_self, hlo, hat', b17, b18, e22, e23, h0, c4, hsl, beq_self_eq_true, Bool.and_self, reduceCtorEq]
  intro a1 p1 h1 _ a2 p2 h2 _
  have L := hld a1 a2 (fun e => (h1 e).1) (fun e => (h2 e).1)
  refine ⟨L, fun a3 p3 h3 _ => ⟨hrd a3 x12 (Nat.le_refl _) (fun e => (h3 e).1), fun _ _ _ _ _ _ _ _ => ⟨hrd a3 x19 (by omega) (fun e => (h3 e).1), fun _ _ _ _ _ _ _ _ => ⟨L, ?_⟩⟩⟩⟩
  trivial
theorem okl_LoadBack (k xk xa xb : Int) (xs : ByteArray) (yk ya yb : Int) (ys : ByteArray) (a : Option Addr) (n cap : Nat) (K A B : Nat → Int) (s : Nat → ByteArray) (at_ : Int) (hk : i64ok k) (h1 : i64ok xk) (h2 : i64ok xa) (h3 : i64ok xb) (h4 : i64ok yk) (h5 : i64ok ya) (h6 : i64ok yb) (ha : a = none → n = 0) (hn : n ≤ maxLen) (hat : i64ok at_) :
    OwesV Try.prog cxLk slLk [] 30 Try.f5 [sI .i64 k, sRaw xk xa xb xs, sRaw yk ya yb ys, .sc (.xs a n cap 4 (rawF K A B s)), sI .i64 at_] yes :=
  ok_LoadBack k xk xa xb xs yk ya yb ys a n cap K A B s at_ hk ⟨h1, h2, h3⟩ ⟨h4, h5, h6⟩ ha hn hat
end Go.Proofs.Ytamhchemnalfbaa
end

section
namespace Go.Sx
open Go.RowKit Go.ChangeShapes Go.WideShapes
inductive LQ where
  | k (x : LK)
  | sl (ks : List LK)
def LQ.fits (W : World) : LQ → Value → Prop
  | .k x, v => x.fits v
  | .sl ks, v => ∃ (a : Option Addr) (n cap : Nat) (f : Nat → Nat → Value), v = .slice a n cap ∧ n ≤ maxLen ∧ (∀ i, i < n → ∀ (c : Nat) (x : LK), ks[c]? = some x → x.fits (f i c)) ∧
      SC.bnd ⟨fun _ => False, (Rho.whole W).fz⟩ (.xs a n cap ks.length fun i c => .val (f i c))
def fitsQ (W : World) : List LQ → List Value → Prop
  | [], [] => True
  | l :: ls, v :: vs => l.fits W v ∧ fitsQ W ls vs
  | _, _ => False
theorem fitsL_at : ∀ {ks : List LK} {vs : List Value} {c : Nat} {x : LK}, fitsL ks vs → ks[c]? = some x → ∃ v, vs[c]? = some v ∧ x.fits v
  | [], _, _, _, _, h => by simp at h
  | _ :: _, [], _, _, h, _ => h.elim
  | _ :: _, v :: _, 0, _, h, e => by
    simp only [List.getElem?_cons_zero, Option.some.injEq] at e
    subst e
    exact ⟨v, rfl, h.1⟩
  | _ :: _, _ :: _, c + 1, _, h, e => by
    simp only [List.getElem?_cons_succ] at e ⊢
    exact fitsL_at h.2 e
theorem LK.fits_fit {x : LK} {v : Value} (h : x.fits v) : oneCell v = true := by
  cases x <;> cases v <;> first | rfl | exact h.elim
theorem cells_at {w : World} {base : Nat} {a : Addr} {n : Nat} {cs : List Value} (h : w.cells? base a n = some cs) : cs.length = n ∧ ∀ j v, cs[j]? = some v → w.cell? (a.add j) = some v := by
  unfold World.cells? at h
  split at h
  · obtain ⟨h1, h2⟩ := mapM_get h
    rw [List.length_range] at h1
    refine ⟨h1, fun j v hv => ?_⟩
    have hj : j < n := by rw [← h1]; exact (List.getElem?_eq_some_iff.1 hv).1
    obtain ⟨b, hb, hc⟩ := h2 j j (by rw [List.getElem?_range hj])
    rw [hv] at hb
    cases hb
    exact hc
  · cases h
section
variable {H : Type} {enc : TypeId × Value → H} {P : Program} {w : World} {base : Nat} {sp : Nat → Bool} {held : Bool}
theorem trod_sl {fuel : Nat} {t e : TypeId} {ks : List LK} {d : Nat} {cs : List Value} {y : DataW H × List MemPlace} (ht : P.underlying t = some (.slice e)) (he : lks P d e = some ks) (hc : P.cellsOf e = ks.length) (hk : 1 ≤ ks.length)
    (hs : ∀ v ∈ cs, ∀ a n cap, v = .slice (some a) n cap → a.spot = none) (h : DataW.trod enc P w base sp held fuel t cs = some y) : fitsQ w [.sl ks] cs := by
  cases fuel with
  | zero => simp [DataW.trod] at h
  | succ fuel =>
    match cs, h with
    | [], h => simp [DataW.trod, ht] at h
    | _ :: _ :: _, h => simp [DataW.trod, ht] at h
    | [v], h =>
      cases v <;> simp only [DataW.trod, ht] at h <;> try (cases h)
      rename_i a n cap
      cases a with
      | none =>
        match n, cap, h with
        | 0, 0, _ => exact ⟨⟨none, 0, 0, fun _ _ => .nilIface, rfl, Nat.zero_le _, fun i hi => by omega, fun _ => ⟨rfl, rfl⟩, Nat.le_refl _, fun b hb => by cases hb⟩, trivial⟩
        | 0, c + 1, h => simp at h
        | m + 1, c, h => simp at h
      | some a =>
        have hsp : a.spot = none := hs _ (by simp) a n cap rfl
        simp only at h
        split at h
        case isFalse => cases h
        rename_i hb
        obtain ⟨elems, hel, _⟩ := Option.bind_eq_some_iff.1 h
        obtain ⟨h1, h2⟩ := mapM_get hel
        have hrow : ∀ i, i < n → ∃ vs : List Value, fitsL ks vs ∧ ∀ c v, vs[c]? = some v → w.cell? ⟨a.block, a.off + (i * ks.length + c), none⟩ = some v := by
          intro i hi
          obtain ⟨b, _, hb'⟩ := h2 i i (by rw [List.getElem?_range hi])
          obtain ⟨vs, hvs, ht'⟩ := Option.bind_eq_some_iff.1 hb'
          rw [hc] at hvs
          obtain ⟨_, q2⟩ := cells_at hvs
          refine ⟨vs, trod_fits he ht', fun c v hv => ?_⟩
          have := q2 c v hv
          rw [← this, fz_add (add_spot hsp _) c, add_block, add_off, Nat.add_assoc]
        refine ⟨⟨some a, n, cap, fun i c => if h : i < n then (hrow i h).choose.getD c .nilIface else .nilIface, rfl, Nat.le_trans hb.2.1 hb.2.2, fun i hi c x hx => ?_, fun e => (by cases e), hb.2.1, fun b hb' => ?_⟩, trivial⟩
        · obtain ⟨q1, q2⟩ := (hrow i hi).choose_spec
          obtain ⟨v, hv, hf⟩ := fitsL_at q1 hx
          dsimp only
          rw [dif_pos hi, List.getD_eq_getElem?_getD, hv]
          exact hf
        · cases hb'
          refine ⟨hsp, fun i hi c hc' => ?_⟩
          obtain ⟨q1, q2⟩ := (hrow i hi).choose_spec
          obtain ⟨v, hv, hf⟩ := fitsL_at q1 (c := c) (x := ks[c]) (List.getElem?_eq_getElem hc')
          have e : (if h : i < n then (hrow i h).choose.getD c .nilIface else .nilIface) = v := by rw [dif_pos hi, List.getD_eq_getElem?_getD, hv]; rfl
          dsimp only
          rw [e]
          exact ⟨trivial, LK.fits_fit hf, q2 c v hv⟩
theorem spot_cell {r : Reach} {b0 : Nat} {u : TypeId} {a : Addr} {n cap : Nat} (h : Cell.okWide P w r b0 u (.slice (some a) n cap)) : a.spot = none := by
  have h2 : Cell.ok P w r b0 u (.slice (some a) n cap) := by
    unfold Cell.okWide at h
    split at h <;> first | exact h | simp_all
  unfold Cell.ok at h2
  split at h2 <;> first | exact h2.elim | (simp_all; done) | (rename_i e1; cases e1; exact h2.2.2.2.1)
theorem open_sl {d : Nat} {t e : TypeId} {ks : List LK} {r : Reach} {b0 : Nat} {v : Value} {x : DataW H} {ps : List MemPlace} (ht : P.underlying t = some (.slice e)) (he : lks P d e = some ks) (hc : P.cellsOf e = ks.length) (hk : 1 ≤ ks.length)
    (hval : Value.okWide P w r b0 t v) (hd : DataW.Trod enc P w base sp held t v x ps) : (LQ.sl ks).fits w v := by
  obtain ⟨fuel, hf⟩ := hd
  obtain ⟨a, n, cap, rfl⟩ := Go.WideShapes.okWide_slice ht hval
  have hv : (Value.slice a n cap).cells.toList = [.slice a n cap] := rfl
  rw [hv] at hf
  refine (trod_sl ht he hc hk (fun v hv a' n' cap' e => ?_) hf).1
  rw [List.mem_singleton.1 hv] at e
  cases e
  unfold Value.okWide at hval
  rw [ht] at hval
  exact spot_cell hval
theorem xs_told {E : Env} {a : Option Addr} {n cap wd : Nat} {g g' : Nat → Nat → SC} (h : SC.bnd E (.xs a n cap wd g)) (e : ∀ i, i < n → ∀ c, c < wd → (g i c).conc Rho.nil = (g' i c).conc Rho.nil ∧ (g' i c).bnd E.bare ∧ (g' i c).fit = true) : SC.bnd E (.xs a n cap wd g') := by
  obtain ⟨h1, h2, h3⟩ := h
  refine ⟨h1, h2, fun b hb => ⟨(h3 b hb).1, fun i hi c hc => ?_⟩⟩
  obtain ⟨e1, e2, e3⟩ := e i hi c hc
  exact ⟨e2, e3, by rw [← e1]; exact ((h3 b hb).2 i hi c hc).2.2⟩
end
theorem calls_of_owesV {P : Program} {cx : Cx} (hcx : CxOK P cx) {sl : List (Nat × SSpec)} (hsl : ∀ p ∈ sl, FnOKs P cx.gl p.1 p.2) {iv : List (Nat × Hint)} {N : Nat} {f : FuncId} {fn : Func} (hf : P.funcs[f]? = some fn) (hb : fn.body.isSome = true) {args : List SA} {out : SV}
    (h : OwesV P cx sl iv N fn args out) (ρ : Rho) (w : World) (hz : FzOK ρ.fz w) (hg : GlobsOK cx.gl ρ.fz) (hargs : ∀ x ∈ args, x.bnd ⟨fun _ => False, ρ.fz⟩) :
    Calls P f (args.map (SA.conc ρ)).toArray w fun e w' => ∃ v, e = .returned v ∧ (∃ ρ', out.rep ρ' v) ∧ Below w.heap.size w w' := by
  unfold OwesV at h
  refine (calls_of_owesS hcx hsl hf hb h ρ w hz hg hargs).mono ?_
  rintro e w' ⟨v, rfl, hbl, sv, ob', ρ', hp, hr, _⟩
  exact ⟨v, rfl, ⟨ρ', same_sound hp ρ' v hr⟩, hbl⟩
def intV : Value → Int
  | .int _ n => n
  | _ => 0
theorem fit_int {k : IntKind} {v : Value} (h : (LK.int k).fits v) : v = .int k (intV v) ∧ (Lit.int k (intV v)).wf = true := by
  cases v <;> try exact h.elim
  obtain ⟨rfl, h⟩ := h
  exact ⟨rfl, h⟩
end Go.Sx
end
