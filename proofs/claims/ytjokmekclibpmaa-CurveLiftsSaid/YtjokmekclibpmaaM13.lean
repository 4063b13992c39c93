/-
  Texts: V63, P105, P106, P107, V64, P108, V65, P109, V66, P110, V72, V70, P115, P116, V71, P117, V76, P121, P122, P123, P124, P125.
-/
import Derived.Test.YtjokmekclibpmaaM1
import Derived.Test.YtjokmekclibpmaaM2
import Derived.Test.YtjokmekclibpmaaM3
import Derived.Test.YtjokmekclibpmaaM4
import Derived.Test.YtjokmekclibpmaaM5
import Derived.Test.YtjokmekclibpmaaM6
import Derived.Test.YtjokmekclibpmaaM7
import Derived.Test.YtjokmekclibpmaaM8
import Derived.Test.YtjokmekclibpmaaM9
import Derived.Test.YtjokmekclibpmaaM10
import Derived.Test.YtjokmekclibpmaaM11
import Derived.Test.YtjokmekclibpmaaM12
section
namespace Go.Proofs.Ytjokmekclibpmaa
open Go Go.Sx Go.RowKit
set_option maxRecDepth 100000
def restUC (n : Nat) (f : Nat → Int) (m : Nat) : List Prop := [dgs n f, n ≤ 1000, m % M256 ≠ 0]
def restUR (n : Nat) (f : Nat → Int) (m : Nat) : List RS := [.v (sU (vn n f % (m % M256)))]
def slRest : List (Nat × SSpec) := (46, specDU restUC restUR) :: slAll
def modC (_ _ m : Nat) : List Prop := [m % M256 ≠ 0]
def totG (a b m : Nat) : SV := .one (sU ((a % M256 + b % M256) % (m % M256)))
def proC (a b m : Nat) : List Prop := [m % M256 ≠ 0, a % M256 < m % M256, b % M256 < m % M256]
def proG (a b m : Nat) : SV := .one (sU (a % M256 * (b % M256) % (m % M256)))
def oppC (a m : Nat) : List Prop := [a % M256 ≤ m % M256]
def oppG (a m : Nat) : SV := .one (sU (if a % M256 = 0 then 0 else m % M256 - a % M256))
def ordG (a b : Nat) : SV := .one (sI .i64 (cmpI (a % M256) (b % M256)))
theorem vc_refQuo (a b : Nat) (r : SV) (q s : Nat) (e : Int) :
    OwesV Try.prog .none slAll [] 4 Try.f40 [sU a, sU b] (.tup [sU q, sU s, sI .i64 e]) =
    (let x1 : Nat := b % M256; let x2 : Nat := q % M256; let x3 : Nat := s % M256; let x4 : Nat := vn 8 fun (i : Nat) => dg x1 i; let x5 : Nat := vn 8 fun (i : Nat) => dg (a % M256) i; let x6 : Nat := remL x5 x4 8; let x7 : Nat := vn 8 fun (i : Nat) => intsC (SC.val (Go.Value.int Go.IntKind.u64 (dg (a % M256) i))); let x8 : Nat := vn 8 fun (i : Nat) => intsC (SC.val (Go.Value.int Go.IntKind.u64 (dg x1 i))); (conj [x1 == 0] = Bool.true → (0 = x2 ∧ True) ∧ (0 = x3 ∧ True) ∧ (7 : Int) = e) ∧ (conj [x1 == 0] = Bool.false → ((∀ (a_2 : Option Go.Addr) (cap : Nat), (a_2 = Option.none → 8 = 0 ∧ cap = 0) → 8 ≤ cap → ∀ (a_5 : Option Go.Addr) (cap : Nat), (a_5 = Option.none → 8 = 0 ∧ cap = 0) → 8 ≤ cap → (∀ (_ : Nat), True) ∧ (∀ (_ : Nat), True) ∧ (dgs 8 fun (i : Nat) => intsC (SC.val (Go.Value.int Go.IntKind.u64 (dg (a % M256) i)))) ∧ 8 ≤ 1000 ∧ (dgs 8 fun (i : Nat) => intsC (SC.val (Go.Value.int Go.IntKind.u64 (dg x1 i)))) ∧ 8 ≤ 900 ∧ x4 ≠ 0 ∧ ∀ (a : Option Go.Addr) (cap : Nat), (a = Option.none → 8 = 0 ∧ cap = 0) → 8 ≤ cap → ∀ (a : Option Go.Addr) (cap : Nat), (a = Option.none → x6 = 0 ∧ cap = 0) → x6 ≤ cap → ((∀ (_ : Nat), True) ∧ (dgs 8 fun (i : Nat) => intsC (SC.val (Go.Value.int Go.IntKind.u64 (dg (x7 / x8) i)))) ∧ 8 ≤ 1000 ∧ (∀ (_ : Nat), True) ∧ (dgs (remL x7 x8 8) fun (i : Nat) => intsC (SC.val (Go.Value.int Go.IntKind.u64 (dg (x7 % x8) i)))) ∧ x6 ≤ 1000 ∧ ((vn 8 fun (i : Nat) => dg (x5 / x4) i) % M256 % M256 = x2 ∧ True) ∧ ((vn x6 fun (i : Nat) => dg (x5 % x4) i) % M256 % M256 = x3 ∧ True) ∧ (0 : Int) = e) ∧ (∀ (_ : Nat), True) ∧ (dgs 8 fun (i : Nat) => intsC (SC.val (Go.Value.int Go.IntKind.u64 (dg (x7 / x8) i)))) ∧ 8 ≤ 1000 ∧ (∀ (_ : Nat), True) ∧ (dgs (remL x7 x8 8) fun (i : Nat) => intsC (SC.val (Go.Value.int Go.IntKind.u64 (dg (x7 % x8) i)))) ∧ x6 ≤ 1000 ∧ ((vn 8 fun (i : Nat) => dg (x5 / x4) i) % M256 % M256 = x2 ∧ True) ∧ ((vn x6 fun (i : Nat) => dg (x5 % x4) i) % M256 % M256 = x3 ∧ True) ∧ (0 : Int) = e) ∧ ∀ (a_2 : Option Go.Addr) (cap : Nat), (a_2 = Option.none → 8 = 0 ∧ cap = 0) → 8 ≤ cap → ∀ (a_5 : Option Go.Addr) (cap : Nat), (a_5 = Option.none → 8 = 0 ∧ cap = 0) → 8 ≤ cap → (∀ (_ : Nat), True) ∧ (∀ (_ : Nat), True) ∧ (dgs 8 fun (i : Nat) => intsC (SC.val (Go.Value.int Go.IntKind.u64 (dg (a % M256) i)))) ∧ 8 ≤ 1000 ∧ (dgs 8 fun (i : Nat) => intsC (SC.val (Go.Value.int Go.IntKind.u64 (dg x1 i)))) ∧ 8 ≤ 900 ∧ x4 ≠ 0 ∧ ∀ (a : Option Go.Addr) (cap : Nat), (a = Option.none → 8 = 0 ∧ cap = 0) → 8 ≤ cap → ∀ (a : Option Go.Addr) (cap : Nat), (a = Option.none → x6 = 0 ∧ cap = 0) → x6 ≤ cap → ((∀ (_ : Nat), True) ∧ (dgs 8 fun (i : Nat) => intsC (SC.val (Go.Value.int Go.IntKind.u64 (dg (x7 / x8) i)))) ∧ 8 ≤ 1000 ∧ (∀ (_ : Nat), True) ∧ (dgs (remL x7 x8 8) fun (i : Nat) => intsC (SC.val (Go.Value.int Go.IntKind.u64 (dg (x7 % x8) i)))) ∧ x6 ≤ 1000 ∧ ((vn 8 fun (i : Nat) => dg (x5 / x4) i) % M256 % M256 = x2 ∧ True) ∧ ((vn x6 fun (i : Nat) => dg (x5 % x4) i) % M256 % M256 = x3 ∧ True) ∧ (0 : Int) = e) ∧ (∀ (_ : Nat), True) ∧ (dgs 8 fun (i : Nat) => intsC (SC.val (Go.Value.int Go.IntKind.u64 (dg (x7 / x8) i)))) ∧ 8 ≤ 1000 ∧ (∀ (_ : Nat), True) ∧ (dgs (remL x7 x8 8) fun (i : Nat) => intsC (SC.val (Go.Value.int Go.IntKind.u64 (dg (x7 % x8) i)))) ∧ x6 ≤ 1000 ∧ ((vn 8 fun (i : Nat) => dg (x5 / x4) i) % M256 % M256 = x2 ∧ True) ∧ ((vn x6 fun (i : Nat) => dg (x5 % x4) i) % M256 % M256 = x3 ∧ True) ∧ (0 : Int) = e) ∧ ∀ (a_2 : Option Go.Addr) (cap : Nat), (a_2 = Option.none → 8 = 0 ∧ cap = 0) → 8 ≤ cap → ∀ (a_5 : Option Go.Addr) (cap : Nat), (a_5 = Option.none → 8 = 0 ∧ cap = 0) → 8 ≤ cap → (∀ (_ : Nat), True) ∧ (∀ (_ : Nat), True) ∧ (dgs 8 fun (i : Nat) => intsC (SC.val (Go.Value.int Go.IntKind.u64 (dg (a % M256) i)))) ∧ 8 ≤ 1000 ∧ (dgs 8 fun (i : Nat) => intsC (SC.val (Go.Value.int Go.IntKind.u64 (dg x1 i)))) ∧ 8 ≤ 900 ∧ x4 ≠ 0 ∧ ∀ (a : Option Go.Addr) (cap : Nat), (a = Option.none → 8 = 0 ∧ cap = 0) → 8 ≤ cap → ∀ (a : Option Go.Addr) (cap : Nat), (a = Option.none → x6 = 0 ∧ cap = 0) → x6 ≤ cap → ((∀ (_ : Nat), True) ∧ (dgs 8 fun (i : Nat) => intsC (SC.val (Go.Value.int Go.IntKind.u64 (dg (x7 / x8) i)))) ∧ 8 ≤ 1000 ∧ (∀ (_ : Nat), True) ∧ (dgs (remL x7 x8 8) fun (i : Nat) => intsC (SC.val (Go.Value.int Go.IntKind.u64 (dg (x7 % x8) i)))) ∧ x6 ≤ 1000 ∧ ((vn 8 fun (i : Nat) => dg (x5 / x4) i) % M256 % M256 = x2 ∧ True) ∧ ((vn x6 fun (i : Nat) => dg (x5 % x4) i) % M256 % M256 = x3 ∧ True) ∧ (0 : Int) = e) ∧ (∀ (_ : Nat), True) ∧ (dgs 8 fun (i : Nat) => intsC (SC.val (Go.Value.int Go.IntKind.u64 (dg (x7 / x8) i)))) ∧ 8 ≤ 1000 ∧ (∀ (_ : Nat), True) ∧ (dgs (remL x7 x8 8) fun (i : Nat) => intsC (SC.val (Go.Value.int Go.IntKind.u64 (dg (x7 % x8) i)))) ∧ x6 ≤ 1000 ∧ ((vn 8 fun (i : Nat) => dg (x5 / x4) i) % M256 % M256 = x2 ∧ True) ∧ ((vn x6 fun (i : Nat) => dg (x5 % x4) i) % M256 % M256 = x3 ∧ True) ∧ (0 : Int) = e)) := by kernel_rfl
theorem vc_refOrd (a b : Nat) :
    OwesV Try.prog .none slAll [] 4 Try.f19 [sU a, sU b] (ordG a b) =
    (let x1 : Nat := a % M256; let x2 : Nat := b % M256; ((∀ (a : Option Go.Addr) (cap : Nat), (a = Option.none → 8 = 0 ∧ cap = 0) → 8 ≤ cap → ∀ (a : Option Go.Addr) (cap : Nat), (a = Option.none → 8 = 0 ∧ cap = 0) → 8 ≤ cap → (∀ (_ : Nat), True) ∧ (∀ (_ : Nat), True) ∧ (dgs 8 fun (i : Nat) => intsC (SC.val (Go.Value.int Go.IntKind.u64 (dg x1 i)))) ∧ 8 ≤ 1000 ∧ (dgs 8 fun (i : Nat) => intsC (SC.val (Go.Value.int Go.IntKind.u64 (dg x2 i)))) ∧ 8 ≤ 1000 ∧ cmpI (vn 8 fun (i : Nat) => dg x1 i) (vn 8 fun (i : Nat) => dg x2 i) = cmpI x1 x2) ∧ ∀ (a : Option Go.Addr) (cap : Nat), (a = Option.none → 8 = 0 ∧ cap = 0) → 8 ≤ cap → ∀ (a : Option Go.Addr) (cap : Nat), (a = Option.none → 8 = 0 ∧ cap = 0) → 8 ≤ cap → (∀ (_ : Nat), True) ∧ (∀ (_ : Nat), True) ∧ (dgs 8 fun (i : Nat) => intsC (SC.val (Go.Value.int Go.IntKind.u64 (dg x1 i)))) ∧ 8 ≤ 1000 ∧ (dgs 8 fun (i : Nat) => intsC (SC.val (Go.Value.int Go.IntKind.u64 (dg x2 i)))) ∧ 8 ≤ 1000 ∧ cmpI (vn 8 fun (i : Nat) => dg x1 i) (vn 8 fun (i : Nat) => dg x2 i) = cmpI x1 x2) ∧ ∀ (a : Option Go.Addr) (cap : Nat), (a = Option.none → 8 = 0 ∧ cap = 0) → 8 ≤ cap → ∀ (a : Option Go.Addr) (cap : Nat), (a = Option.none → 8 = 0 ∧ cap = 0) → 8 ≤ cap → (∀ (_ : Nat), True) ∧ (∀ (_ : Nat), True) ∧ (dgs 8 fun (i : Nat) => intsC (SC.val (Go.Value.int Go.IntKind.u64 (dg x1 i)))) ∧ 8 ≤ 1000 ∧ (dgs 8 fun (i : Nat) => intsC (SC.val (Go.Value.int Go.IntKind.u64 (dg x2 i)))) ∧ 8 ≤ 1000 ∧ cmpI (vn 8 fun (i : Nat) => dg x1 i) (vn 8 fun (i : Nat) => dg x2 i) = cmpI x1 x2) := by kernel_rfl
theorem vc_refRest (a : Option Addr) (n c : Nat) (f : Nat → Int) (m : Nat) :
    OwesR Try.prog .none slAll [] 4 Try.f46 [xsI a n c .u64 f, sU m] false (restUR n f m) =
    (let x1 : Nat := m % M256; let x2 : Nat := vn 8 fun (i : Nat) => dg x1 i; let x3 : Nat := remL (vn n fun (i : Nat) => f i) x2 n; let x4 : Nat := vn n fun (i : Nat) => intsC (SC.val (Go.Value.int Go.IntKind.u64 (f i))); let x5 : Nat := vn 8 fun (i : Nat) => intsC (SC.val (Go.Value.int Go.IntKind.u64 (dg x1 i))); ∀ (a : Option Go.Addr) (cap : Nat), (a = Option.none → 8 = 0 ∧ cap = 0) → 8 ≤ cap → (∀ (_ : Nat), True) ∧ (∀ (_ : Nat), True) ∧ (dgs n fun (i : Nat) => intsC (SC.val (Go.Value.int Go.IntKind.u64 (f i)))) ∧ n ≤ 1000 ∧ (dgs 8 fun (i : Nat) => intsC (SC.val (Go.Value.int Go.IntKind.u64 (dg x1 i)))) ∧ 8 ≤ 900 ∧ x2 ≠ 0 ∧ ∀ (a : Option Go.Addr) (cap : Nat), (a = Option.none → n = 0 ∧ cap = 0) → n ≤ cap → ∀ (a : Option Go.Addr) (cap : Nat), (a = Option.none → x3 = 0 ∧ cap = 0) → x3 ≤ cap → (∀ (_ : Nat), True) ∧ (dgs (remL x4 x5 n) fun (i : Nat) => intsC (SC.val (Go.Value.int Go.IntKind.u64 (dg (x4 % x5) i)))) ∧ x3 ≤ 1000 ∧ (vn x3 fun (i : Nat) => dg ((vn n fun (i : Nat) => f i) % x2) i) % M256 % M256 = vn n f % x1 % M256 ∧ True) := by kernel_rfl
theorem vc_refTot (a b m : Nat) :
    OwesV Try.prog .none slRest [] 4 Try.f20 [sU a, sU b, sU m] (totG a b m) =
    (let x1 : Nat := a % M256; let x2 : Nat := b % M256; let x3 : Nat := m % M256; ((∀ (a : Option Go.Addr) (cap : Nat), (a = Option.none → 8 = 0 ∧ cap = 0) → 8 ≤ cap → ((∀ (a : Option Go.Addr) (cap : Nat), (a = Option.none → 8 = 0 ∧ cap = 0) → 8 ≤ cap → ((∀ (_ : Nat), True) ∧ (∀ (_ : Nat), True) ∧ (dgs 8 fun (i : Nat) => intsC (SC.val (Go.Value.int Go.IntKind.u64 (dg x1 i)))) ∧ 8 ≤ 1000 ∧ (dgs 8 fun (i : Nat) => intsC (SC.val (Go.Value.int Go.IntKind.u64 (dg x2 i)))) ∧ 8 ≤ 1000 ∧ ∀ (a : Option Go.Addr) (cap : Nat), (a = Option.none → 9 = 0 ∧ cap = 0) → 9 ≤ cap → (∀ (_ : Nat), True) ∧ (dgs 9 fun (i : Nat) => intsC (SC.val (Go.Value.int Go.IntKind.u64 (dg ((vn 8 fun (i : Nat) => intsC (SC.val (Go.Value.int Go.IntKind.u64 (dg x1 i)))) + vn 8 fun (i : Nat) => intsC (SC.val (Go.Value.int Go.IntKind.u64 (dg x2 i)))) i)))) ∧ 9 ≤ 1000 ∧ x3 ≠ 0 ∧ (vn 9 fun (i : Nat) => dg ((vn 8 fun (i : Nat) => dg x1 i) + vn 8 fun (i : Nat) => dg x2 i) i) % x3 % M256 = (x1 + x2) % x3 % M256 ∧ True) ∧ (∀ (_ : Nat), True) ∧ (∀ (_ : Nat), True) ∧ (dgs 8 fun (i : Nat) => intsC (SC.val (Go.Value.int Go.IntKind.u64 (dg x1 i)))) ∧ 8 ≤ 1000 ∧ (dgs 8 fun (i : Nat) => intsC (SC.val (Go.Value.int Go.IntKind.u64 (dg x2 i)))) ∧ 8 ≤ 1000 ∧ ∀ (a : Option Go.Addr) (cap : Nat), (a = Option.none → 9 = 0 ∧ cap = 0) → 9 ≤ cap → (∀ (_ : Nat), True) ∧ (dgs 9 fun (i : Nat) => intsC (SC.val (Go.Value.int Go.IntKind.u64 (dg ((vn 8 fun (i : Nat) => intsC (SC.val (Go.Value.int Go.IntKind.u64 (dg x1 i)))) + vn 8 fun (i : Nat) => intsC (SC.val (Go.Value.int Go.IntKind.u64 (dg x2 i)))) i)))) ∧ 9 ≤ 1000 ∧ x3 ≠ 0 ∧ (vn 9 fun (i : Nat) => dg ((vn 8 fun (i : Nat) => dg x1 i) + vn 8 fun (i : Nat) => dg x2 i) i) % x3 % M256 = (x1 + x2) % x3 % M256 ∧ True) ∧ ∀ (a : Option Go.Addr) (cap : Nat), (a = Option.none → 8 = 0 ∧ cap = 0) → 8 ≤ cap → (∀ (_ : Nat), True) ∧ (∀ (_ : Nat), True) ∧ (dgs 8 fun (i : Nat) => intsC (SC.val (Go.Value.int Go.IntKind.u64 (dg x1 i)))) ∧ 8 ≤ 1000 ∧ (dgs 8 fun (i : Nat) => intsC (SC.val (Go.Value.int Go.IntKind.u64 (dg x2 i)))) ∧ 8 ≤ 1000 ∧ ∀ (a : Option Go.Addr) (cap : Nat), (a = Option.none → 9 = 0 ∧ cap = 0) → 9 ≤ cap → (∀ (_ : Nat), True) ∧ (dgs 9 fun (i : Nat) => intsC (SC.val (Go.Value.int Go.IntKind.u64 (dg ((vn 8 fun (i : Nat) => intsC (SC.val (Go.Value.int Go.IntKind.u64 (dg x1 i)))) + vn 8 fun (i : Nat) => intsC (SC.val (Go.Value.int Go.IntKind.u64 (dg x2 i)))) i)))) ∧ 9 ≤ 1000 ∧ x3 ≠ 0 ∧ (vn 9 fun (i : Nat) => dg ((vn 8 fun (i : Nat) => dg x1 i) + vn 8 fun (i : Nat) => dg x2 i) i) % x3 % M256 = (x1 + x2) % x3 % M256 ∧ True) ∧ ∀ (a : Option Go.Addr) (cap : Nat), (a = Option.none → 8 = 0 ∧ cap = 0) → 8 ≤ cap → (∀ (_ : Nat), True) ∧ (∀ (_ : Nat), True) ∧ (dgs 8 fun (i : Nat) => intsC (SC.val (Go.Value.int Go.IntKind.u64 (dg x1 i)))) ∧ 8 ≤ 1000 ∧ (dgs 8 fun (i : Nat) => intsC (SC.val (Go.Value.int Go.IntKind.u64 (dg x2 i)))) ∧ 8 ≤ 1000 ∧ ∀ (a : Option Go.Addr) (cap : Nat), (a = Option.none → 9 = 0 ∧ cap = 0) → 9 ≤ cap → (∀ (_ : Nat), True) ∧ (dgs 9 fun (i : Nat) => intsC (SC.val (Go.Value.int Go.IntKind.u64 (dg ((vn 8 fun (i : Nat) => intsC (SC.val (Go.Value.int Go.IntKind.u64 (dg x1 i)))) + vn 8 fun (i : Nat) => intsC (SC.val (Go.Value.int Go.IntKind.u64 (dg x2 i)))) i)))) ∧ 9 ≤ 1000 ∧ x3 ≠ 0 ∧ (vn 9 fun (i : Nat) => dg ((vn 8 fun (i : Nat) => dg x1 i) + vn 8 fun (i : Nat) => dg x2 i) i) % x3 % M256 = (x1 + x2) % x3 % M256 ∧ True) ∧ ((∀ (a : Option Go.Addr) (cap : Nat), (a = Option.none → 8 = 0 ∧ cap = 0) → 8 ≤ cap → (∀ (a : Option Go.Addr) (cap : Nat), (a = Option.none → 8 = 0 ∧ cap = 0) → 8 ≤ cap → ((∀ (_ : Nat), True) ∧ (∀ (_ : Nat), True) ∧ (dgs 8 fun (i : Nat) => intsC (SC.val (Go.Value.int Go.IntKind.u64 (dg x1 i)))) ∧ 8 ≤ 1000 ∧ (dgs 8 fun (i : Nat) => intsC (SC.val (Go.Value.int Go.IntKind.u64 (dg x2 i)))) ∧ 8 ≤ 1000 ∧ ∀ (a : Option Go.Addr) (cap : Nat), (a = Option.none → 9 = 0 ∧ cap = 0) → 9 ≤ cap → (∀ (_ : Nat), True) ∧ (dgs 9 fun (i : Nat) => intsC (SC.val (Go.Value.int Go.IntKind.u64 (dg ((vn 8 fun (i : Nat) => intsC (SC.val (Go.Value.int Go.IntKind.u64 (dg x1 i)))) + vn 8 fun (i : Nat) => intsC (SC.val (Go.Value.int Go.IntKind.u64 (dg x2 i)))) i)))) ∧ 9 ≤ 1000 ∧ x3 ≠ 0 ∧ (vn 9 fun (i : Nat) => dg ((vn 8 fun (i : Nat) => dg x1 i) + vn 8 fun (i : Nat) => dg x2 i) i) % x3 % M256 = (x1 + x2) % x3 % M256 ∧ True) ∧ (∀ (_ : Nat), True) ∧ (∀ (_ : Nat), True) ∧ (dgs 8 fun (i : Nat) => intsC (SC.val (Go.Value.int Go.IntKind.u64 (dg x1 i)))) ∧ 8 ≤ 1000 ∧ (dgs 8 fun (i : Nat) => intsC (SC.val (Go.Value.int Go.IntKind.u64 (dg x2 i)))) ∧ 8 ≤ 1000 ∧ ∀ (a : Option Go.Addr) (cap : Nat), (a = Option.none → 9 = 0 ∧ cap = 0) → 9 ≤ cap → (∀ (_ : Nat), True) ∧ (dgs 9 fun (i : Nat) => intsC (SC.val (Go.Value.int Go.IntKind.u64 (dg ((vn 8 fun (i : Nat) => intsC (SC.val (Go.Value.int Go.IntKind.u64 (dg x1 i)))) + vn 8 fun (i : Nat) => intsC (SC.val (Go.Value.int Go.IntKind.u64 (dg x2 i)))) i)))) ∧ 9 ≤ 1000 ∧ x3 ≠ 0 ∧ (vn 9 fun (i : Nat) => dg ((vn 8 fun (i : Nat) => dg x1 i) + vn 8 fun (i : Nat) => dg x2 i) i) % x3 % M256 = (x1 + x2) % x3 % M256 ∧ True) ∧ ∀ (a : Option Go.Addr) (cap : Nat), (a = Option.none → 8 = 0 ∧ cap = 0) → 8 ≤ cap → (∀ (_ : Nat), True) ∧ (∀ (_ : Nat), True) ∧ (dgs 8 fun (i : Nat) => intsC (SC.val (Go.Value.int Go.IntKind.u64 (dg x1 i)))) ∧ 8 ≤ 1000 ∧ (dgs 8 fun (i : Nat) => intsC (SC.val (Go.Value.int Go.IntKind.u64 (dg x2 i)))) ∧ 8 ≤ 1000 ∧ ∀ (a : Option Go.Addr) (cap : Nat), (a = Option.none → 9 = 0 ∧ cap = 0) → 9 ≤ cap → (∀ (_ : Nat), True) ∧ (dgs 9 fun (i : Nat) => intsC (SC.val (Go.Value.int Go.IntKind.u64 (dg ((vn 8 fun (i : Nat) => intsC (SC.val (Go.Value.int Go.IntKind.u64 (dg x1 i)))) + vn 8 fun (i : Nat) => intsC (SC.val (Go.Value.int Go.IntKind.u64 (dg x2 i)))) i)))) ∧ 9 ≤ 1000 ∧ x3 ≠ 0 ∧ (vn 9 fun (i : Nat) => dg ((vn 8 fun (i : Nat) => dg x1 i) + vn 8 fun (i : Nat) => dg x2 i) i) % x3 % M256 = (x1 + x2) % x3 % M256 ∧ True) ∧ ∀ (a : Option Go.Addr) (cap : Nat), (a = Option.none → 8 = 0 ∧ cap = 0) → 8 ≤ cap → ∀ (a : Option Go.Addr) (cap : Nat), (a = Option.none → 8 = 0 ∧ cap = 0) → 8 ≤ cap → (∀ (_ : Nat), True) ∧ (∀ (_ : Nat), True) ∧ (dgs 8 fun (i : Nat) => intsC (SC.val (Go.Value.int Go.IntKind.u64 (dg x1 i)))) ∧ 8 ≤ 1000 ∧ (dgs 8 fun (i : Nat) => intsC (SC.val (Go.Value.int Go.IntKind.u64 (dg x2 i)))) ∧ 8 ≤ 1000 ∧ ∀ (a : Option Go.Addr) (cap : Nat), (a = Option.none → 9 = 0 ∧ cap = 0) → 9 ≤ cap → (∀ (_ : Nat), True) ∧ (dgs 9 fun (i : Nat) => intsC (SC.val (Go.Value.int Go.IntKind.u64 (dg ((vn 8 fun (i : Nat) => intsC (SC.val (Go.Value.int Go.IntKind.u64 (dg x1 i)))) + vn 8 fun (i : Nat) => intsC (SC.val (Go.Value.int Go.IntKind.u64 (dg x2 i)))) i)))) ∧ 9 ≤ 1000 ∧ x3 ≠ 0 ∧ (vn 9 fun (i : Nat) => dg ((vn 8 fun (i : Nat) => dg x1 i) + vn 8 fun (i : Nat) => dg x2 i) i) % x3 % M256 = (x1 + x2) % x3 % M256 ∧ True) ∧ (∀ (a : Option Go.Addr) (cap : Nat), (a = Option.none → 8 = 0 ∧ cap = 0) → 8 ≤ cap → ∀ (a : Option Go.Addr) (cap : Nat), (a = Option.none → 8 = 0 ∧ cap = 0) → 8 ≤ cap → (∀ (_ : Nat), True) ∧ (∀ (_ : Nat), True) ∧ (dgs 8 fun (i : Nat) => intsC (SC.val (Go.Value.int Go.IntKind.u64 (dg x1 i)))) ∧ 8 ≤ 1000 ∧ (dgs 8 fun (i : Nat) => intsC (SC.val (Go.Value.int Go.IntKind.u64 (dg x2 i)))) ∧ 8 ≤ 1000 ∧ ∀ (a : Option Go.Addr) (cap : Nat), (a = Option.none → 9 = 0 ∧ cap = 0) → 9 ≤ cap → (∀ (_ : Nat), True) ∧ (dgs 9 fun (i : Nat) => intsC (SC.val (Go.Value.int Go.IntKind.u64 (dg ((vn 8 fun (i : Nat) => intsC (SC.val (Go.Value.int Go.IntKind.u64 (dg x1 i)))) + vn 8 fun (i : Nat) => intsC (SC.val (Go.Value.int Go.IntKind.u64 (dg x2 i)))) i)))) ∧ 9 ≤ 1000 ∧ x3 ≠ 0 ∧ (vn 9 fun (i : Nat) => dg ((vn 8 fun (i : Nat) => dg x1 i) + vn 8 fun (i : Nat) => dg x2 i) i) % x3 % M256 = (x1 + x2) % x3 % M256 ∧ True) ∧ ∀ (a : Option Go.Addr) (cap : Nat), (a = Option.none → 8 = 0 ∧ cap = 0) → 8 ≤ cap → ∀ (a : Option Go.Addr) (cap : Nat), (a = Option.none → 8 = 0 ∧ cap = 0) → 8 ≤ cap → (∀ (_ : Nat), True) ∧ (∀ (_ : Nat), True) ∧ (dgs 8 fun (i : Nat) => intsC (SC.val (Go.Value.int Go.IntKind.u64 (dg x1 i)))) ∧ 8 ≤ 1000 ∧ (dgs 8 fun (i : Nat) => intsC (SC.val (Go.Value.int Go.IntKind.u64 (dg x2 i)))) ∧ 8 ≤ 1000 ∧ ∀ (a : Option Go.Addr) (cap : Nat), (a = Option.none → 9 = 0 ∧ cap = 0) → 9 ≤ cap → (∀ (_ : Nat), True) ∧ (dgs 9 fun (i : Nat) => intsC (SC.val (Go.Value.int Go.IntKind.u64 (dg ((vn 8 fun (i : Nat) => intsC (SC.val (Go.Value.int Go.IntKind.u64 (dg x1 i)))) + vn 8 fun (i : Nat) => intsC (SC.val (Go.Value.int Go.IntKind.u64 (dg x2 i)))) i)))) ∧ 9 ≤ 1000 ∧ x3 ≠ 0 ∧ (vn 9 fun (i : Nat) => dg ((vn 8 fun (i : Nat) => dg x1 i) + vn 8 fun (i : Nat) => dg x2 i) i) % x3 % M256 = (x1 + x2) % x3 % M256 ∧ True) ∧ (((∀ (a : Option Go.Addr) (cap : Nat), (a = Option.none → 8 = 0 ∧ cap = 0) → 8 ≤ cap → (∀ (a : Option Go.Addr) (cap : Nat), (a = Option.none → 8 = 0 ∧ cap = 0) → 8 ≤ cap → ((∀ (_ : Nat), True) ∧ (∀ (_ : Nat), True) ∧ (dgs 8 fun (i : Nat) => intsC (SC.val (Go.Value.int Go.IntKind.u64 (dg x1 i)))) ∧ 8 ≤ 1000 ∧ (dgs 8 fun (i : Nat) => intsC (SC.val (Go.Value.int Go.IntKind.u64 (dg x2 i)))) ∧ 8 ≤ 1000 ∧ ∀ (a : Option Go.Addr) (cap : Nat), (a = Option.none → 9 = 0 ∧ cap = 0) → 9 ≤ cap → (∀ (_ : Nat), True) ∧ (dgs 9 fun (i : Nat) => intsC (SC.val (Go.Value.int Go.IntKind.u64 (dg ((vn 8 fun (i : Nat) => intsC (SC.val (Go.Value.int Go.IntKind.u64 (dg x1 i)))) + vn 8 fun (i : Nat) => intsC (SC.val (Go.Value.int Go.IntKind.u64 (dg x2 i)))) i)))) ∧ 9 ≤ 1000 ∧ x3 ≠ 0 ∧ (vn 9 fun (i : Nat) => dg ((vn 8 fun (i : Nat) => dg x1 i) + vn 8 fun (i : Nat) => dg x2 i) i) % x3 % M256 = (x1 + x2) % x3 % M256 ∧ True) ∧ (∀ (_ : Nat), True) ∧ (∀ (_ : Nat), True) ∧ (dgs 8 fun (i : Nat) => intsC (SC.val (Go.Value.int Go.IntKind.u64 (dg x1 i)))) ∧ 8 ≤ 1000 ∧ (dgs 8 fun (i : Nat) => intsC (SC.val (Go.Value.int Go.IntKind.u64 (dg x2 i)))) ∧ 8 ≤ 1000 ∧ ∀ (a : Option Go.Addr) (cap : Nat), (a = Option.none → 9 = 0 ∧ cap = 0) → 9 ≤ cap → (∀ (_ : Nat), True) ∧ (dgs 9 fun (i : Nat) => intsC (SC.val (Go.Value.int Go.IntKind.u64 (dg ((vn 8 fun (i : Nat) => intsC (SC.val (Go.Value.int Go.IntKind.u64 (dg x1 i)))) + vn 8 fun (i : Nat) => intsC (SC.val (Go.Value.int Go.IntKind.u64 (dg x2 i)))) i)))) ∧ 9 ≤ 1000 ∧ x3 ≠ 0 ∧ (vn 9 fun (i : Nat) => dg ((vn 8 fun (i : Nat) => dg x1 i) + vn 8 fun (i : Nat) => dg x2 i) i) % x3 % M256 = (x1 + x2) % x3 % M256 ∧ True) ∧ ∀ (a : Option Go.Addr) (cap : Nat), (a = Option.none → 8 = 0 ∧ cap = 0) → 8 ≤ cap → (∀ (_ : Nat), True) ∧ (∀ (_ : Nat), True) ∧ (dgs 8 fun (i : Nat) => intsC (SC.val (Go.Value.int Go.IntKind.u64 (dg x1 i)))) ∧ 8 ≤ 1000 ∧ (dgs 8 fun (i : Nat) => intsC (SC.val (Go.Value.int Go.IntKind.u64 (dg x2 i)))) ∧ 8 ≤ 1000 ∧ ∀ (a : Option Go.Addr) (cap : Nat), (a = Option.none → 9 = 0 ∧ cap = 0) → 9 ≤ cap → (∀ (_ : Nat), True) ∧ (dgs 9 fun (i : Nat) => intsC (SC.val (Go.Value.int Go.IntKind.u64 (dg ((vn 8 fun (i : Nat) => intsC (SC.val (Go.Value.int Go.IntKind.u64 (dg x1 i)))) + vn 8 fun (i : Nat) => intsC (SC.val (Go.Value.int Go.IntKind.u64 (dg x2 i)))) i)))) ∧ 9 ≤ 1000 ∧ x3 ≠ 0 ∧ (vn 9 fun (i : Nat) => dg ((vn 8 fun (i : Nat) => dg x1 i) + vn 8 fun (i : Nat) => dg x2 i) i) % x3 % M256 = (x1 + x2) % x3 % M256 ∧ True) ∧ ∀ (a : Option Go.Addr) (cap : Nat), (a = Option.none → 8 = 0 ∧ cap = 0) → 8 ≤ cap → ∀ (a : Option Go.Addr) (cap : Nat), (a = Option.none → 8 = 0 ∧ cap = 0) → 8 ≤ cap → (∀ (_ : Nat), True) ∧ (∀ (_ : Nat), True) ∧ (dgs 8 fun (i : Nat) => intsC (SC.val (Go.Value.int Go.IntKind.u64 (dg x1 i)))) ∧ 8 ≤ 1000 ∧ (dgs 8 fun (i : Nat) => intsC (SC.val (Go.Value.int Go.IntKind.u64 (dg x2 i)))) ∧ 8 ≤ 1000 ∧ ∀ (a : Option Go.Addr) (cap : Nat), (a = Option.none → 9 = 0 ∧ cap = 0) → 9 ≤ cap → (∀ (_ : Nat), True) ∧ (dgs 9 fun (i : Nat) => intsC (SC.val (Go.Value.int Go.IntKind.u64 (dg ((vn 8 fun (i : Nat) => intsC (SC.val (Go.Value.int Go.IntKind.u64 (dg x1 i)))) + vn 8 fun (i : Nat) => intsC (SC.val (Go.Value.int Go.IntKind.u64 (dg x2 i)))) i)))) ∧ 9 ≤ 1000 ∧ x3 ≠ 0 ∧ (vn 9 fun (i : Nat) => dg ((vn 8 fun (i : Nat) => dg x1 i) + vn 8 fun (i : Nat) => dg x2 i) i) % x3 % M256 = (x1 + x2) % x3 % M256 ∧ True) ∧ ∀ (a : Option Go.Addr) (cap : Nat), (a = Option.none → 8 = 0 ∧ cap = 0) → 8 ≤ cap → ∀ (a : Option Go.Addr) (cap : Nat), (a = Option.none → 8 = 0 ∧ cap = 0) → 8 ≤ cap → (∀ (_ : Nat), True) ∧ (∀ (_ : Nat), True) ∧ (dgs 8 fun (i : Nat) => intsC (SC.val (Go.Value.int Go.IntKind.u64 (dg x1 i)))) ∧ 8 ≤ 1000 ∧ (dgs 8 fun (i : Nat) => intsC (SC.val (Go.Value.int Go.IntKind.u64 (dg x2 i)))) ∧ 8 ≤ 1000 ∧ ∀ (a : Option Go.Addr) (cap : Nat), (a = Option.none → 9 = 0 ∧ cap = 0) → 9 ≤ cap → (∀ (_ : Nat), True) ∧ (dgs 9 fun (i : Nat) => intsC (SC.val (Go.Value.int Go.IntKind.u64 (dg ((vn 8 fun (i : Nat) => intsC (SC.val (Go.Value.int Go.IntKind.u64 (dg x1 i)))) + vn 8 fun (i : Nat) => intsC (SC.val (Go.Value.int Go.IntKind.u64 (dg x2 i)))) i)))) ∧ 9 ≤ 1000 ∧ x3 ≠ 0 ∧ (vn 9 fun (i : Nat) => dg ((vn 8 fun (i : Nat) => dg x1 i) + vn 8 fun (i : Nat) => dg x2 i) i) % x3 % M256 = (x1 + x2) % x3 % M256 ∧ True) ∧ ((∀ (a : Option Go.Addr) (cap : Nat), (a = Option.none → 8 = 0 ∧ cap = 0) → 8 ≤ cap → ∀ (a : Option Go.Addr) (cap : Nat), (a = Option.none → 8 = 0 ∧ cap = 0) → 8 ≤ cap → (∀ (_ : Nat), True) ∧ (∀ (_ : Nat), True) ∧ (dgs 8 fun (i : Nat) => intsC (SC.val (Go.Value.int Go.IntKind.u64 (dg x1 i)))) ∧ 8 ≤ 1000 ∧ (dgs 8 fun (i : Nat) => intsC (SC.val (Go.Value.int Go.IntKind.u64 (dg x2 i)))) ∧ 8 ≤ 1000 ∧ ∀ (a : Option Go.Addr) (cap : Nat), (a = Option.none → 9 = 0 ∧ cap = 0) → 9 ≤ cap → (∀ (_ : Nat), True) ∧ (dgs 9 fun (i : Nat) => intsC (SC.val (Go.Value.int Go.IntKind.u64 (dg ((vn 8 fun (i : Nat) => intsC (SC.val (Go.Value.int Go.IntKind.u64 (dg x1 i)))) + vn 8 fun (i : Nat) => intsC (SC.val (Go.Value.int Go.IntKind.u64 (dg x2 i)))) i)))) ∧ 9 ≤ 1000 ∧ x3 ≠ 0 ∧ (vn 9 fun (i : Nat) => dg ((vn 8 fun (i : Nat) => dg x1 i) + vn 8 fun (i : Nat) => dg x2 i) i) % x3 % M256 = (x1 + x2) % x3 % M256 ∧ True) ∧ ∀ (a : Option Go.Addr) (cap : Nat), (a = Option.none → 8 = 0 ∧ cap = 0) → 8 ≤ cap → ∀ (a : Option Go.Addr) (cap : Nat), (a = Option.none → 8 = 0 ∧ cap = 0) → 8 ≤ cap → (∀ (_ : Nat), True) ∧ (∀ (_ : Nat), True) ∧ (dgs 8 fun (i : Nat) => intsC (SC.val (Go.Value.int Go.IntKind.u64 (dg x1 i)))) ∧ 8 ≤ 1000 ∧ (dgs 8 fun (i : Nat) => intsC (SC.val (Go.Value.int Go.IntKind.u64 (dg x2 i)))) ∧ 8 ≤ 1000 ∧ ∀ (a : Option Go.Addr) (cap : Nat), (a = Option.none → 9 = 0 ∧ cap = 0) → 9 ≤ cap → (∀ (_ : Nat), True) ∧ (dgs 9 fun (i : Nat) => intsC (SC.val (Go.Value.int Go.IntKind.u64 (dg ((vn 8 fun (i : Nat) => intsC (SC.val (Go.Value.int Go.IntKind.u64 (dg x1 i)))) + vn 8 fun (i : Nat) => intsC (SC.val (Go.Value.int Go.IntKind.u64 (dg x2 i)))) i)))) ∧ 9 ≤ 1000 ∧ x3 ≠ 0 ∧ (vn 9 fun (i : Nat) => dg ((vn 8 fun (i : Nat) => dg x1 i) + vn 8 fun (i : Nat) => dg x2 i) i) % x3 % M256 = (x1 + x2) % x3 % M256 ∧ True) ∧ ∀ (a : Option Go.Addr) (cap : Nat), (a = Option.none → 8 = 0 ∧ cap = 0) → 8 ≤ cap → ∀ (a : Option Go.Addr) (cap : Nat), (a = Option.none → 8 = 0 ∧ cap = 0) → 8 ≤ cap → (∀ (_ : Nat), True) ∧ (∀ (_ : Nat), True) ∧ (dgs 8 fun (i : Nat) => intsC (SC.val (Go.Value.int Go.IntKind.u64 (dg x1 i)))) ∧ 8 ≤ 1000 ∧ (dgs 8 fun (i : Nat) => intsC (SC.val (Go.Value.int Go.IntKind.u64 (dg x2 i)))) ∧ 8 ≤ 1000 ∧ ∀ (a : Option Go.Addr) (cap : Nat), (a = Option.none → 9 = 0 ∧ cap = 0) → 9 ≤ cap → (∀ (_ : Nat), True) ∧ (dgs 9 fun (i : Nat) => intsC (SC.val (Go.Value.int Go.IntKind.u64 (dg ((vn 8 fun (i : Nat) => intsC (SC.val (Go.Value.int Go.IntKind.u64 (dg x1 i)))) + vn 8 fun (i : Nat) => intsC (SC.val (Go.Value.int Go.IntKind.u64 (dg x2 i)))) i)))) ∧ 9 ≤ 1000 ∧ x3 ≠ 0 ∧ (vn 9 fun (i : Nat) => dg ((vn 8 fun (i : Nat) => dg x1 i) + vn 8 fun (i : Nat) => dg x2 i) i) % x3 % M256 = (x1 + x2) % x3 % M256 ∧ True) := by kernel_rfl
theorem vc_refOpp (a m : Nat) (r : Nat) :
    OwesV Try.prog .none slAll [] 4 Try.f42 [sU a, sU m] (.one (sU r)) =
    (let x1 : Nat := a % M256; let x2 : Nat := r % M256; let x3 : Nat := vn 8 fun (i : Nat) => dg x1 i; let x4 : Nat := vn 8 fun (i : Nat) => dg (m % M256) i; (conj [x1 == 0] = Bool.true → x1 = x2 ∧ True) ∧ (conj [x1 == 0] = Bool.false → ((∀ (a : Option Go.Addr) (cap : Nat), (a = Option.none → 8 = 0 ∧ cap = 0) → 8 ≤ cap → ∀ (a : Option Go.Addr) (cap : Nat), (a = Option.none → 8 = 0 ∧ cap = 0) → 8 ≤ cap → (∀ (_ : Nat), True) ∧ (∀ (_ : Nat), True) ∧ (dgs 8 fun (i : Nat) => intsC (SC.val (Go.Value.int Go.IntKind.u64 (dg (m % M256) i)))) ∧ 8 ≤ 1000 ∧ (dgs 8 fun (i : Nat) => intsC (SC.val (Go.Value.int Go.IntKind.u64 (dg x1 i)))) ∧ 8 ≤ 1000 ∧ x3 ≤ x4 ∧ ∀ (a : Option Go.Addr) (cap : Nat), (a = Option.none → 8 = 0 ∧ cap = 0) → 8 ≤ cap → (∀ (_ : Nat), True) ∧ (dgs 8 fun (i : Nat) => intsC (SC.val (Go.Value.int Go.IntKind.u64 (dg ((vn 8 fun (i : Nat) => intsC (SC.val (Go.Value.int Go.IntKind.u64 (dg (m % M256) i)))) - vn 8 fun (i : Nat) => intsC (SC.val (Go.Value.int Go.IntKind.u64 (dg x1 i)))) i)))) ∧ 8 ≤ 1000 ∧ (vn 8 fun (i : Nat) => dg (x4 - x3) i) % M256 % M256 = x2 ∧ True) ∧ ∀ (a : Option Go.Addr) (cap : Nat), (a = Option.none → 8 = 0 ∧ cap = 0) → 8 ≤ cap → ∀ (a : Option Go.Addr) (cap : Nat), (a = Option.none → 8 = 0 ∧ cap = 0) → 8 ≤ cap → (∀ (_ : Nat), True) ∧ (∀ (_ : Nat), True) ∧ (dgs 8 fun (i : Nat) => intsC (SC.val (Go.Value.int Go.IntKind.u64 (dg (m % M256) i)))) ∧ 8 ≤ 1000 ∧ (dgs 8 fun (i : Nat) => intsC (SC.val (Go.Value.int Go.IntKind.u64 (dg x1 i)))) ∧ 8 ≤ 1000 ∧ x3 ≤ x4 ∧ ∀ (a : Option Go.Addr) (cap : Nat), (a = Option.none → 8 = 0 ∧ cap = 0) → 8 ≤ cap → (∀ (_ : Nat), True) ∧ (dgs 8 fun (i : Nat) => intsC (SC.val (Go.Value.int Go.IntKind.u64 (dg ((vn 8 fun (i : Nat) => intsC (SC.val (Go.Value.int Go.IntKind.u64 (dg (m % M256) i)))) - vn 8 fun (i : Nat) => intsC (SC.val (Go.Value.int Go.IntKind.u64 (dg x1 i)))) i)))) ∧ 8 ≤ 1000 ∧ (vn 8 fun (i : Nat) => dg (x4 - x3) i) % M256 % M256 = x2 ∧ True) ∧ ∀ (a : Option Go.Addr) (cap : Nat), (a = Option.none → 8 = 0 ∧ cap = 0) → 8 ≤ cap → ∀ (a : Option Go.Addr) (cap : Nat), (a = Option.none → 8 = 0 ∧ cap = 0) → 8 ≤ cap → (∀ (_ : Nat), True) ∧ (∀ (_ : Nat), True) ∧ (dgs 8 fun (i : Nat) => intsC (SC.val (Go.Value.int Go.IntKind.u64 (dg (m % M256) i)))) ∧ 8 ≤ 1000 ∧ (dgs 8 fun (i : Nat) => intsC (SC.val (Go.Value.int Go.IntKind.u64 (dg x1 i)))) ∧ 8 ≤ 1000 ∧ x3 ≤ x4 ∧ ∀ (a : Option Go.Addr) (cap : Nat), (a = Option.none → 8 = 0 ∧ cap = 0) → 8 ≤ cap → (∀ (_ : Nat), True) ∧ (dgs 8 fun (i : Nat) => intsC (SC.val (Go.Value.int Go.IntKind.u64 (dg ((vn 8 fun (i : Nat) => intsC (SC.val (Go.Value.int Go.IntKind.u64 (dg (m % M256) i)))) - vn 8 fun (i : Nat) => intsC (SC.val (Go.Value.int Go.IntKind.u64 (dg x1 i)))) i)))) ∧ 8 ≤ 1000 ∧ (vn 8 fun (i : Nat) => dg (x4 - x3) i) % M256 % M256 = x2 ∧ True)) := by kernel_rfl
theorem vc_refPro (a b m : Nat) (r : Nat) :
    OwesV Try.prog .none slRest [] 4 Try.f21 [sU a, sU b, sU m] (.one (sU r)) =
    (let x1 : Bool := Go.IntKind.u64.wrap (↑(BitVec.ofInt 64 (Go.IntKind.u64.wrap (↑(BitVec.ofInt 64 (limb m 1) ||| BitVec.ofInt 64 (limb m 2)).toNat : Int)) ||| BitVec.ofInt 64 (limb m 3)).toNat : Int) == (0 : Int); let x2 : Int := (Go.IntKind.u64.wrap (limb a 0 * limb b 0)).tmod (limb m 0); let x3 : Nat := r % M256; let x4 : Nat := m % M256; (x1 = Bool.true → x1 = Bool.true) ∧ (x1 = Bool.true → x1 = Bool.true) ∧ (x1 = Bool.true → x1 = Bool.true) ∧ ((x1 && Decidable.decide (limb m 0 < (4294967296 : Int))) = Bool.true → limb m 0 ≠ (0 : Int) ∧ ((0 : Int) ≤ x2 ∧ x2 < (18446744073709551616 : Int)) ∧ ((0 : Int) ≤ (0 : Int) ∧ (0 : Int) < (18446744073709551616 : Int)) ∧ ((0 : Int) ≤ (0 : Int) ∧ (0 : Int) < (18446744073709551616 : Int)) ∧ ((0 : Int) ≤ (0 : Int) ∧ (0 : Int) < (18446744073709551616 : Int)) ∧ join x2 (0 : Int) (0 : Int) (0 : Int) % M256 = x3 ∧ True) ∧ ((x1 && Decidable.decide (limb m 0 < (4294967296 : Int))) = Bool.false → ((∀ (a_2 : Option Go.Addr) (cap : Nat), (a_2 = Option.none → 8 = 0 ∧ cap = 0) → 8 ≤ cap → ((∀ (a_5 : Option Go.Addr) (cap : Nat), (a_5 = Option.none → 8 = 0 ∧ cap = 0) → 8 ≤ cap → ((∀ (_ : Nat), True) ∧ (∀ (_ : Nat), True) ∧ (dgs 8 fun (i : Nat) => intsC (SC.val (Go.Value.int Go.IntKind.u64 (dg (a % M256) i)))) ∧ 8 ≤ 1000 ∧ (dgs 8 fun (i : Nat) => intsC (SC.val (Go.Value.int Go.IntKind.u64 (dg (b % M256) i)))) ∧ 8 ≤ 1000 ∧ ∀ (a_8 : Option Go.Addr) (cap : Nat), (a_8 = Option.none → 16 = 0 ∧ cap = 0) → 16 ≤ cap → (∀ (_ : Nat), True) ∧ (dgs 16 fun (i : Nat) => intsC (SC.val (Go.Value.int Go.IntKind.u64 (dg ((vn 8 fun (i : Nat) => intsC (SC.val (Go.Value.int Go.IntKind.u64 (dg (a % M256) i)))) * vn 8 fun (i : Nat) => intsC (SC.val (Go.Value.int Go.IntKind.u64 (dg (b % M256) i)))) i)))) ∧ 16 ≤ 1000 ∧ x4 ≠ 0 ∧ (vn 16 fun (i : Nat) => dg ((vn 8 fun (i : Nat) => dg (a % M256) i) * vn 8 fun (i : Nat) => dg (b % M256) i) i) % x4 % M256 = x3 ∧ True) ∧ (∀ (_ : Nat), True) ∧ (∀ (_ : Nat), True) ∧ (dgs 8 fun (i : Nat) => intsC (SC.val (Go.Value.int Go.IntKind.u64 (dg (a % M256) i)))) ∧ 8 ≤ 1000 ∧ (dgs 8 fun (i : Nat) => intsC (SC.val (Go.Value.int Go.IntKind.u64 (dg (b % M256) i)))) ∧ 8 ≤ 1000 ∧ ∀ (a_8 : Option Go.Addr) (cap : Nat), (a_8 = Option.none → 16 = 0 ∧ cap = 0) → 16 ≤ cap → (∀ (_ : Nat), True) ∧ (dgs 16 fun (i : Nat) => intsC (SC.val (Go.Value.int Go.IntKind.u64 (dg ((vn 8 fun (i : Nat) => intsC (SC.val (Go.Value.int Go.IntKind.u64 (dg (a % M256) i)))) * vn 8 fun (i : Nat) => intsC (SC.val (Go.Value.int Go.IntKind.u64 (dg (b % M256) i)))) i)))) ∧ 16 ≤ 1000 ∧ x4 ≠ 0 ∧ (vn 16 fun (i : Nat) => dg ((vn 8 fun (i : Nat) => dg (a % M256) i) * vn 8 fun (i : Nat) => dg (b % M256) i) i) % x4 % M256 = x3 ∧ True) ∧ ∀ (a_5 : Option Go.Addr) (cap : Nat), (a_5 = Option.none → 8 = 0 ∧ cap = 0) → 8 ≤ cap → (∀ (_ : Nat), True) ∧ (∀ (_ : Nat), True) ∧ (dgs 8 fun (i : Nat) => intsC (SC.val (Go.Value.int Go.IntKind.u64 (dg (a % M256) i)))) ∧ 8 ≤ 1000 ∧ (dgs 8 fun (i : Nat) => intsC (SC.val (Go.Value.int Go.IntKind.u64 (dg (b % M256) i)))) ∧ 8 ≤ 1000 ∧ ∀ (a_8 : Option Go.Addr) (cap : Nat), (a_8 = Option.none → 16 = 0 ∧ cap = 0) → 16 ≤ cap → (∀ (_ : Nat), True) ∧ (dgs 16 fun (i : Nat) => intsC (SC.val (Go.Value.int Go.IntKind.u64 (dg ((vn 8 fun (i : Nat) => intsC (SC.val (Go.Value.int Go.IntKind.u64 (dg (a % M256) i)))) * vn 8 fun (i : Nat) => intsC (SC.val (Go.Value.int Go.IntKind.u64 (dg (b % M256) i)))) i)))) ∧ 16 ≤ 1000 ∧ x4 ≠ 0 ∧ (vn 16 fun (i : Nat) => dg ((vn 8 fun (i : Nat) => dg (a % M256) i) * vn 8 fun (i : Nat) => dg (b % M256) i) i) % x4 % M256 = x3 ∧ True) ∧ ∀ (a_5 : Option Go.Addr) (cap : Nat), (a_5 = Option.none → 8 = 0 ∧ cap = 0) → 8 ≤ cap → (∀ (_ : Nat), True) ∧ (∀ (_ : Nat), True) ∧ (dgs 8 fun (i : Nat) => intsC (SC.val (Go.Value.int Go.IntKind.u64 (dg (a % M256) i)))) ∧ 8 ≤ 1000 ∧ (dgs 8 fun (i : Nat) => intsC (SC.val (Go.Value.int Go.IntKind.u64 (dg (b % M256) i)))) ∧ 8 ≤ 1000 ∧ ∀ (a_8 : Option Go.Addr) (cap : Nat), (a_8 = Option.none → 16 = 0 ∧ cap = 0) → 16 ≤ cap → (∀ (_ : Nat), True) ∧ (dgs 16 fun (i : Nat) => intsC (SC.val (Go.Value.int Go.IntKind.u64 (dg ((vn 8 fun (i : Nat) => intsC (SC.val (Go.Value.int Go.IntKind.u64 (dg (a % M256) i)))) * vn 8 fun (i : Nat) => intsC (SC.val (Go.Value.int Go.IntKind.u64 (dg (b % M256) i)))) i)))) ∧ 16 ≤ 1000 ∧ x4 ≠ 0 ∧ (vn 16 fun (i : Nat) => dg ((vn 8 fun (i : Nat) => dg (a % M256) i) * vn 8 fun (i : Nat) => dg (b % M256) i) i) % x4 % M256 = x3 ∧ True) ∧ ((∀ (a_2 : Option Go.Addr) (cap : Nat), (a_2 = Option.none → 8 = 0 ∧ cap = 0) → 8 ≤ cap → (∀ (a_5 : Option Go.Addr) (cap : Nat), (a_5 = Option.none → 8 = 0 ∧ cap = 0) → 8 ≤ cap → ((∀ (_ : Nat), True) ∧ (∀ (_ : Nat), True) ∧ (dgs 8 fun (i : Nat) => intsC (SC.val (Go.Value.int Go.IntKind.u64 (dg (a % M256) i)))) ∧ 8 ≤ 1000 ∧ (dgs 8 fun (i : Nat) => intsC (SC.val (Go.Value.int Go.IntKind.u64 (dg (b % M256) i)))) ∧ 8 ≤ 1000 ∧ ∀ (a_8 : Option Go.Addr) (cap : Nat), (a_8 = Option.none → 16 = 0 ∧ cap = 0) → 16 ≤ cap → (∀ (_ : Nat), True) ∧ (dgs 16 fun (i : Nat) => intsC (SC.val (Go.Value.int Go.IntKind.u64 (dg ((vn 8 fun (i : Nat) => intsC (SC.val (Go.Value.int Go.IntKind.u64 (dg (a % M256) i)))) * vn 8 fun (i : Nat) => intsC (SC.val (Go.Value.int Go.IntKind.u64 (dg (b % M256) i)))) i)))) ∧ 16 ≤ 1000 ∧ x4 ≠ 0 ∧ (vn 16 fun (i : Nat) => dg ((vn 8 fun (i : Nat) => dg (a % M256) i) * vn 8 fun (i : Nat) => dg (b % M256) i) i) % x4 % M256 = x3 ∧ True) ∧ (∀ (_ : Nat), True) ∧ (∀ (_ : Nat), True) ∧ (dgs 8 fun (i : Nat) => intsC (SC.val (Go.Value.int Go.IntKind.u64 (dg (a % M256) i)))) ∧ 8 ≤ 1000 ∧ (dgs 8 fun (i : Nat) => intsC (SC.val (Go.Value.int Go.IntKind.u64 (dg (b % M256) i)))) ∧ 8 ≤ 1000 ∧ ∀ (a_8 : Option Go.Addr) (cap : Nat), (a_8 = Option.none → 16 = 0 ∧ cap = 0) → 16 ≤ cap → (∀ (_ : Nat), True) ∧ (dgs 16 fun (i : Nat) => intsC (SC.val (Go.Value.int Go.IntKind.u64 (dg ((vn 8 fun (i : Nat) => intsC (SC.val (Go.Value.int Go.IntKind.u64 (dg (a % M256) i)))) * vn 8 fun (i : Nat) => intsC (SC.val (Go.Value.int Go.IntKind.u64 (dg (b % M256) i)))) i)))) ∧ 16 ≤ 1000 ∧ x4 ≠ 0 ∧ (vn 16 fun (i : Nat) => dg ((vn 8 fun (i : Nat) => dg (a % M256) i) * vn 8 fun (i : Nat) => dg (b % M256) i) i) % x4 % M256 = x3 ∧ True) ∧ ∀ (a_5 : Option Go.Addr) (cap : Nat), (a_5 = Option.none → 8 = 0 ∧ cap = 0) → 8 ≤ cap → (∀ (_ : Nat), True) ∧ (∀ (_ : Nat), True) ∧ (dgs 8 fun (i : Nat) => intsC (SC.val (Go.Value.int Go.IntKind.u64 (dg (a % M256) i)))) ∧ 8 ≤ 1000 ∧ (dgs 8 fun (i : Nat) => intsC (SC.val (Go.Value.int Go.IntKind.u64 (dg (b % M256) i)))) ∧ 8 ≤ 1000 ∧ ∀ (a_8 : Option Go.Addr) (cap : Nat), (a_8 = Option.none → 16 = 0 ∧ cap = 0) → 16 ≤ cap → (∀ (_ : Nat), True) ∧ (dgs 16 fun (i : Nat) => intsC (SC.val (Go.Value.int Go.IntKind.u64 (dg ((vn 8 fun (i : Nat) => intsC (SC.val (Go.Value.int Go.IntKind.u64 (dg (a % M256) i)))) * vn 8 fun (i : Nat) => intsC (SC.val (Go.Value.int Go.IntKind.u64 (dg (b % M256) i)))) i)))) ∧ 16 ≤ 1000 ∧ x4 ≠ 0 ∧ (vn 16 fun (i : Nat) => dg ((vn 8 fun (i : Nat) => dg (a % M256) i) * vn 8 fun (i : Nat) => dg (b % M256) i) i) % x4 % M256 = x3 ∧ True) ∧ ∀ (a_2 : Option Go.Addr) (cap : Nat), (a_2 = Option.none → 8 = 0 ∧ cap = 0) → 8 ≤ cap → ∀ (a_5 : Option Go.Addr) (cap : Nat), (a_5 = Option.none → 8 = 0 ∧ cap = 0) → 8 ≤ cap → (∀ (_ : Nat), True) ∧ (∀ (_ : Nat), True) ∧ (dgs 8 fun (i : Nat) => intsC (SC.val (Go.Value.int Go.IntKind.u64 (dg (a % M256) i)))) ∧ 8 ≤ 1000 ∧ (dgs 8 fun (i : Nat) => intsC (SC.val (Go.Value.int Go.IntKind.u64 (dg (b % M256) i)))) ∧ 8 ≤ 1000 ∧ ∀ (a_8 : Option Go.Addr) (cap : Nat), (a_8 = Option.none → 16 = 0 ∧ cap = 0) → 16 ≤ cap → (∀ (_ : Nat), True) ∧ (dgs 16 fun (i : Nat) => intsC (SC.val (Go.Value.int Go.IntKind.u64 (dg ((vn 8 fun (i : Nat) => intsC (SC.val (Go.Value.int Go.IntKind.u64 (dg (a % M256) i)))) * vn 8 fun (i : Nat) => intsC (SC.val (Go.Value.int Go.IntKind.u64 (dg (b % M256) i)))) i)))) ∧ 16 ≤ 1000 ∧ x4 ≠ 0 ∧ (vn 16 fun (i : Nat) => dg ((vn 8 fun (i : Nat) => dg (a % M256) i) * vn 8 fun (i : Nat) => dg (b % M256) i) i) % x4 % M256 = x3 ∧ True) ∧ (∀ (a_2 : Option Go.Addr) (cap : Nat), (a_2 = Option.none → 8 = 0 ∧ cap = 0) → 8 ≤ cap → ∀ (a_5 : Option Go.Addr) (cap : Nat), (a_5 = Option.none → 8 = 0 ∧ cap = 0) → 8 ≤ cap → (∀ (_ : Nat), True) ∧ (∀ (_ : Nat), True) ∧ (dgs 8 fun (i : Nat) => intsC (SC.val (Go.Value.int Go.IntKind.u64 (dg (a % M256) i)))) ∧ 8 ≤ 1000 ∧ (dgs 8 fun (i : Nat) => intsC (SC.val (Go.Value.int Go.IntKind.u64 (dg (b % M256) i)))) ∧ 8 ≤ 1000 ∧ ∀ (a_8 : Option Go.Addr) (cap : Nat), (a_8 = Option.none → 16 = 0 ∧ cap = 0) → 16 ≤ cap → (∀ (_ : Nat), True) ∧ (dgs 16 fun (i : Nat) => intsC (SC.val (Go.Value.int Go.IntKind.u64 (dg ((vn 8 fun (i : Nat) => intsC (SC.val (Go.Value.int Go.IntKind.u64 (dg (a % M256) i)))) * vn 8 fun (i : Nat) => intsC (SC.val (Go.Value.int Go.IntKind.u64 (dg (b % M256) i)))) i)))) ∧ 16 ≤ 1000 ∧ x4 ≠ 0 ∧ (vn 16 fun (i : Nat) => dg ((vn 8 fun (i : Nat) => dg (a % M256) i) * vn 8 fun (i : Nat) => dg (b % M256) i) i) % x4 % M256 = x3 ∧ True) ∧ ∀ (a_2 : Option Go.Addr) (cap : Nat), (a_2 = Option.none → 8 = 0 ∧ cap = 0) → 8 ≤ cap → ∀ (a_5 : Option Go.Addr) (cap : Nat), (a_5 = Option.none → 8 = 0 ∧ cap = 0) → 8 ≤ cap → (∀ (_ : Nat), True) ∧ (∀ (_ : Nat), True) ∧ (dgs 8 fun (i : Nat) => intsC (SC.val (Go.Value.int Go.IntKind.u64 (dg (a % M256) i)))) ∧ 8 ≤ 1000 ∧ (dgs 8 fun (i : Nat) => intsC (SC.val (Go.Value.int Go.IntKind.u64 (dg (b % M256) i)))) ∧ 8 ≤ 1000 ∧ ∀ (a_8 : Option Go.Addr) (cap : Nat), (a_8 = Option.none → 16 = 0 ∧ cap = 0) → 16 ≤ cap → (∀ (_ : Nat), True) ∧ (dgs 16 fun (i : Nat) => intsC (SC.val (Go.Value.int Go.IntKind.u64 (dg ((vn 8 fun (i : Nat) => intsC (SC.val (Go.Value.int Go.IntKind.u64 (dg (a % M256) i)))) * vn 8 fun (i : Nat) => intsC (SC.val (Go.Value.int Go.IntKind.u64 (dg (b % M256) i)))) i)))) ∧ 16 ≤ 1000 ∧ x4 ≠ 0 ∧ (vn 16 fun (i : Nat) => dg ((vn 8 fun (i : Nat) => dg (a % M256) i) * vn 8 fun (i : Nat) => dg (b % M256) i) i) % x4 % M256 = x3 ∧ True) ∧ (((∀ (a_2 : Option Go.Addr) (cap : Nat), (a_2 = Option.none → 8 = 0 ∧ cap = 0) → 8 ≤ cap → (∀ (a_5 : Option Go.Addr) (cap : Nat), (a_5 = Option.none → 8 = 0 ∧ cap = 0) → 8 ≤ cap → ((∀ (_ : Nat), True) ∧ (∀ (_ : Nat), True) ∧ (dgs 8 fun (i : Nat) => intsC (SC.val (Go.Value.int Go.IntKind.u64 (dg (a % M256) i)))) ∧ 8 ≤ 1000 ∧ (dgs 8 fun (i : Nat) => intsC (SC.val (Go.Value.int Go.IntKind.u64 (dg (b % M256) i)))) ∧ 8 ≤ 1000 ∧ ∀ (a_8 : Option Go.Addr) (cap : Nat), (a_8 = Option.none → 16 = 0 ∧ cap = 0) → 16 ≤ cap → (∀ (_ : Nat), True) ∧ (dgs 16 fun (i : Nat) => intsC (SC.val (Go.Value.int Go.IntKind.u64 (dg ((vn 8 fun (i : Nat) => intsC (SC.val (Go.Value.int Go.IntKind.u64 (dg (a % M256) i)))) * vn 8 fun (i : Nat) => intsC (SC.val (Go.Value.int Go.IntKind.u64 (dg (b % M256) i)))) i)))) ∧ 16 ≤ 1000 ∧ x4 ≠ 0 ∧ (vn 16 fun (i : Nat) => dg ((vn 8 fun (i : Nat) => dg (a % M256) i) * vn 8 fun (i : Nat) => dg (b % M256) i) i) % x4 % M256 = x3 ∧ True) ∧ (∀ (_ : Nat), True) ∧ (∀ (_ : Nat), True) ∧ (dgs 8 fun (i : Nat) => intsC (SC.val (Go.Value.int Go.IntKind.u64 (dg (a % M256) i)))) ∧ 8 ≤ 1000 ∧ (dgs 8 fun (i : Nat) => intsC (SC.val (Go.Value.int Go.IntKind.u64 (dg (b % M256) i)))) ∧ 8 ≤ 1000 ∧ ∀ (a_8 : Option Go.Addr) (cap : Nat), (a_8 = Option.none → 16 = 0 ∧ cap = 0) → 16 ≤ cap → (∀ (_ : Nat), True) ∧ (dgs 16 fun (i : Nat) => intsC (SC.val (Go.Value.int Go.IntKind.u64 (dg ((vn 8 fun (i : Nat) => intsC (SC.val (Go.Value.int Go.IntKind.u64 (dg (a % M256) i)))) * vn 8 fun (i : Nat) => intsC (SC.val (Go.Value.int Go.IntKind.u64 (dg (b % M256) i)))) i)))) ∧ 16 ≤ 1000 ∧ x4 ≠ 0 ∧ (vn 16 fun (i : Nat) => dg ((vn 8 fun (i : Nat) => dg (a % M256) i) * vn 8 fun (i : Nat) => dg (b % M256) i) i) % x4 % M256 = x3 ∧ True) ∧ ∀ (a_5 : Option Go.Addr) (cap : Nat), (a_5 = Option.none → 8 = 0 ∧ cap = 0) → 8 ≤ cap → (∀ (_ : Nat), True) ∧ (∀ (_ : Nat), True) ∧ (dgs 8 fun (i : Nat) => intsC (SC.val (Go.Value.int Go.IntKind.u64 (dg (a % M256) i)))) ∧ 8 ≤ 1000 ∧ (dgs 8 fun (i : Nat) => intsC (SC.val (Go.Value.int Go.IntKind.u64 (dg (b % M256) i)))) ∧ 8 ≤ 1000 ∧ ∀ (a_8 : Option Go.Addr) (cap : Nat), (a_8 = Option.none → 16 = 0 ∧ cap = 0) → 16 ≤ cap → (∀ (_ : Nat), True) ∧ (dgs 16 fun (i : Nat) => intsC (SC.val (Go.Value.int Go.IntKind.u64 (dg ((vn 8 fun (i : Nat) => intsC (SC.val (Go.Value.int Go.IntKind.u64 (dg (a % M256) i)))) * vn 8 fun (i : Nat) => intsC (SC.val (Go.Value.int Go.IntKind.u64 (dg (b % M256) i)))) i)))) ∧ 16 ≤ 1000 ∧ x4 ≠ 0 ∧ (vn 16 fun (i : Nat) => dg ((vn 8 fun (i : Nat) => dg (a % M256) i) * vn 8 fun (i : Nat) => dg (b % M256) i) i) % x4 % M256 = x3 ∧ True) ∧ ∀ (a_2 : Option Go.Addr) (cap : Nat), (a_2 = Option.none → 8 = 0 ∧ cap = 0) → 8 ≤ cap → ∀ (a_5 : Option Go.Addr) (cap : Nat), (a_5 = Option.none → 8 = 0 ∧ cap = 0) → 8 ≤ cap → (∀ (_ : Nat), True) ∧ (∀ (_ : Nat), True) ∧ (dgs 8 fun (i : Nat) => intsC (SC.val (Go.Value.int Go.IntKind.u64 (dg (a % M256) i)))) ∧ 8 ≤ 1000 ∧ (dgs 8 fun (i : Nat) => intsC (SC.val (Go.Value.int Go.IntKind.u64 (dg (b % M256) i)))) ∧ 8 ≤ 1000 ∧ ∀ (a_8 : Option Go.Addr) (cap : Nat), (a_8 = Option.none → 16 = 0 ∧ cap = 0) → 16 ≤ cap → (∀ (_ : Nat), True) ∧ (dgs 16 fun (i : Nat) => intsC (SC.val (Go.Value.int Go.IntKind.u64 (dg ((vn 8 fun (i : Nat) => intsC (SC.val (Go.Value.int Go.IntKind.u64 (dg (a % M256) i)))) * vn 8 fun (i : Nat) => intsC (SC.val (Go.Value.int Go.IntKind.u64 (dg (b % M256) i)))) i)))) ∧ 16 ≤ 1000 ∧ x4 ≠ 0 ∧ (vn 16 fun (i : Nat) => dg ((vn 8 fun (i : Nat) => dg (a % M256) i) * vn 8 fun (i : Nat) => dg (b % M256) i) i) % x4 % M256 = x3 ∧ True) ∧ ∀ (a_2 : Option Go.Addr) (cap : Nat), (a_2 = Option.none → 8 = 0 ∧ cap = 0) → 8 ≤ cap → ∀ (a_5 : Option Go.Addr) (cap : Nat), (a_5 = Option.none → 8 = 0 ∧ cap = 0) → 8 ≤ cap → (∀ (_ : Nat), True) ∧ (∀ (_ : Nat), True) ∧ (dgs 8 fun (i : Nat) => intsC (SC.val (Go.Value.int Go.IntKind.u64 (dg (a % M256) i)))) ∧ 8 ≤ 1000 ∧ (dgs 8 fun (i : Nat) => intsC (SC.val (Go.Value.int Go.IntKind.u64 (dg (b % M256) i)))) ∧ 8 ≤ 1000 ∧ ∀ (a_8 : Option Go.Addr) (cap : Nat), (a_8 = Option.none → 16 = 0 ∧ cap = 0) → 16 ≤ cap → (∀ (_ : Nat), True) ∧ (dgs 16 fun (i : Nat) => intsC (SC.val (Go.Value.int Go.IntKind.u64 (dg ((vn 8 fun (i : Nat) => intsC (SC.val (Go.Value.int Go.IntKind.u64 (dg (a % M256) i)))) * vn 8 fun (i : Nat) => intsC (SC.val (Go.Value.int Go.IntKind.u64 (dg (b % M256) i)))) i)))) ∧ 16 ≤ 1000 ∧ x4 ≠ 0 ∧ (vn 16 fun (i : Nat) => dg ((vn 8 fun (i : Nat) => dg (a % M256) i) * vn 8 fun (i : Nat) => dg (b % M256) i) i) % x4 % M256 = x3 ∧ True) ∧ ((∀ (a_2 : Option Go.Addr) (cap : Nat), (a_2 = Option.none → 8 = 0 ∧ cap = 0) → 8 ≤ cap → ∀ (a_5 : Option Go.Addr) (cap : Nat), (a_5 = Option.none → 8 = 0 ∧ cap = 0) → 8 ≤ cap → (∀ (_ : Nat), True) ∧ (∀ (_ : Nat), True) ∧ (dgs 8 fun (i : Nat) => intsC (SC.val (Go.Value.int Go.IntKind.u64 (dg (a % M256) i)))) ∧ 8 ≤ 1000 ∧ (dgs 8 fun (i : Nat) => intsC (SC.val (Go.Value.int Go.IntKind.u64 (dg (b % M256) i)))) ∧ 8 ≤ 1000 ∧ ∀ (a_8 : Option Go.Addr) (cap : Nat), (a_8 = Option.none → 16 = 0 ∧ cap = 0) → 16 ≤ cap → (∀ (_ : Nat), True) ∧ (dgs 16 fun (i : Nat) => intsC (SC.val (Go.Value.int Go.IntKind.u64 (dg ((vn 8 fun (i : Nat) => intsC (SC.val (Go.Value.int Go.IntKind.u64 (dg (a % M256) i)))) * vn 8 fun (i : Nat) => intsC (SC.val (Go.Value.int Go.IntKind.u64 (dg (b % M256) i)))) i)))) ∧ 16 ≤ 1000 ∧ x4 ≠ 0 ∧ (vn 16 fun (i : Nat) => dg ((vn 8 fun (i : Nat) => dg (a % M256) i) * vn 8 fun (i : Nat) => dg (b % M256) i) i) % x4 % M256 = x3 ∧ True) ∧ ∀ (a_2 : Option Go.Addr) (cap : Nat), (a_2 = Option.none → 8 = 0 ∧ cap = 0) → 8 ≤ cap → ∀ (a_5 : Option Go.Addr) (cap : Nat), (a_5 = Option.none → 8 = 0 ∧ cap = 0) → 8 ≤ cap → (∀ (_ : Nat), True) ∧ (∀ (_ : Nat), True) ∧ (dgs 8 fun (i : Nat) => intsC (SC.val (Go.Value.int Go.IntKind.u64 (dg (a % M256) i)))) ∧ 8 ≤ 1000 ∧ (dgs 8 fun (i : Nat) => intsC (SC.val (Go.Value.int Go.IntKind.u64 (dg (b % M256) i)))) ∧ 8 ≤ 1000 ∧ ∀ (a_8 : Option Go.Addr) (cap : Nat), (a_8 = Option.none → 16 = 0 ∧ cap = 0) → 16 ≤ cap → (∀ (_ : Nat), True) ∧ (dgs 16 fun (i : Nat) => intsC (SC.val (Go.Value.int Go.IntKind.u64 (dg ((vn 8 fun (i : Nat) => intsC (SC.val (Go.Value.int Go.IntKind.u64 (dg (a % M256) i)))) * vn 8 fun (i : Nat) => intsC (SC.val (Go.Value.int Go.IntKind.u64 (dg (b % M256) i)))) i)))) ∧ 16 ≤ 1000 ∧ x4 ≠ 0 ∧ (vn 16 fun (i : Nat) => dg ((vn 8 fun (i : Nat) => dg (a % M256) i) * vn 8 fun (i : Nat) => dg (b % M256) i) i) % x4 % M256 = x3 ∧ True) ∧ ∀ (a_2 : Option Go.Addr) (cap : Nat), (a_2 = Option.none → 8 = 0 ∧ cap = 0) → 8 ≤ cap → ∀ (a_5 : Option Go.Addr) (cap : Nat), (a_5 = Option.none → 8 = 0 ∧ cap = 0) → 8 ≤ cap → (∀ (_ : Nat), True) ∧ (∀ (_ : Nat), True) ∧ (dgs 8 fun (i : Nat) => intsC (SC.val (Go.Value.int Go.IntKind.u64 (dg (a % M256) i)))) ∧ 8 ≤ 1000 ∧ (dgs 8 fun (i : Nat) => intsC (SC.val (Go.Value.int Go.IntKind.u64 (dg (b % M256) i)))) ∧ 8 ≤ 1000 ∧ ∀ (a_8 : Option Go.Addr) (cap : Nat), (a_8 = Option.none → 16 = 0 ∧ cap = 0) → 16 ≤ cap → (∀ (_ : Nat), True) ∧ (dgs 16 fun (i : Nat) => intsC (SC.val (Go.Value.int Go.IntKind.u64 (dg ((vn 8 fun (i : Nat) => intsC (SC.val (Go.Value.int Go.IntKind.u64 (dg (a % M256) i)))) * vn 8 fun (i : Nat) => intsC (SC.val (Go.Value.int Go.IntKind.u64 (dg (b % M256) i)))) i)))) ∧ 16 ≤ 1000 ∧ x4 ≠ 0 ∧ (vn 16 fun (i : Nat) => dg ((vn 8 fun (i : Nat) => dg (a % M256) i) * vn 8 fun (i : Nat) => dg (b % M256) i) i) % x4 % M256 = x3 ∧ True)) := by kernel_rfl
end Go.Proofs.Ytjokmekclibpmaa
end

section
namespace Go.Proofs.Ytjokmekclibpmaa
open Go Go.Sx Go.RowKit
theorem vn8 {X : Nat} (h : X < M256) : vn 8 (fun i => dg X i) = X := vn_dg' (n := 8) h
theorem vnk {k X : Nat} (h : X < 4294967296 ^ k) : vn k (fun i => dg X i) = X := vn_dg' h
theorem modM (a : Nat) : a % M256 < M256 := Nat.mod_lt _ (by decide)
theorem M9 : (4294967296 : Nat) ^ 9 = M256 * 4294967296 := rfl
theorem M16 : (4294967296 : Nat) ^ 16 = M256 * M256 := rfl
theorem ok_refOrd (a b : Nat) : OwesV Try.prog .none slAll [] 4 Try.f19 [sU a, sU b] (ordG a b) := by
  rw [vc_refOrd]
  intro x1 x2
  have h1 : x1 < M256 := modM a
  have h2 : x2 < M256 := modM b
  have T : ∀ i : Nat, True := fun _ => trivial
  have key : cmpI (vn 8 fun i => dg x1 i) (vn 8 fun i => dg x2 i) = cmpI x1 x2 := by rw [vn8 h1, vn8 h2]
  clear_value x1 x2
  repeat' (first | exact T | exact key | exact dgs_dg _ _ | exact (show (8 : Nat) ≤ 1000 by decide) | (intro _ _ _ _) | (refine And.intro ?_ ?_))
end Go.Proofs.Ytjokmekclibpmaa
end

section
namespace Go.Proofs.Ytjokmekclibpmaa
open Go Go.Sx Go.RowKit
theorem remL_lt {X Y n : Nat} (hX : X < 4294967296 ^ n) (hY : 0 < Y) : X % Y < 4294967296 ^ remL X Y n := by
  unfold remL
  have hm := Nat.mod_lt X hY
  by_cases h : Y < 4294967296
  · rw [if_pos h]; omega
  · rw [if_neg h]
    by_cases h0 : n = 0
    · subst h0
      rw [if_pos rfl]
      have : X = 0 := by simpa using hX
      subst this
      rw [Nat.zero_mod]; decide
    · rw [if_neg h0]
      obtain ⟨_, e⟩ := quo_digit (X := X) (k := 0) hY
      rw [Nat.pow_zero, Nat.div_one, Nat.zero_add, Nat.pow_one] at e
      have hr := dg_range X 0
      have hl := lenDg_lt (X / 4294967296 % Y)
      rw [e, Nat.add_comm 1, Nat.pow_succ]
      refine Nat.lt_of_le_of_lt (Nat.mod_le _ _) ?_
      have : (X / 4294967296 % Y + 1) * 4294967296 ≤ 4294967296 ^ lenDg (X / 4294967296 % Y) * 4294967296 := Nat.mul_le_mul_right _ hl
      omega
theorem remL_le {X Y n : Nat} (hY : 0 < Y) (hYM : Y < M256) : remL X Y n ≤ 9 := by
  unfold remL
  split
  · decide
  · split
    · decide
    · have : lenDg (X / 4294967296 % Y) ≤ 8 := lenDg_le (Nat.lt_trans (Nat.mod_lt _ hY) hYM)
      omega
theorem eq0_conj {x : Nat} : conj [x == 0] = (x == 0) := by simp [conj]
theorem ok_refQuo (a b : Nat) : OwesV Try.prog .none slAll [] 4 Try.f40 [sU a, sU b] (.tup [sU (if b % M256 = 0 then 0 else a % M256 / (b % M256)), sU (if b % M256 = 0 then 0 else a % M256 % (b % M256)), sI .i64 (if b % M256 = 0 then 7 else 0)]) := by
  obtain ⟨q, hq⟩ : ∃ q, q = (if b % M256 = 0 then 0 else a % M256 / (b % M256)) := ⟨_, rfl⟩
  obtain ⟨s, hs⟩ : ∃ s, s = (if b % M256 = 0 then 0 else a % M256 % (b % M256)) := ⟨_, rfl⟩
  obtain ⟨e, he⟩ : ∃ e : Int, e = (if b % M256 = 0 then 7 else 0) := ⟨_, rfl⟩
  rw [← hq, ← hs, ← he, vc_refQuo _ _ (.tup [])]
  intro x1 x2 x3 x4 x5 x6 x7 x8
  have hb : x1 < M256 := modM b
  have ha : a % M256 < M256 := modM a
  have E1 : x1 = b % M256 := rfl
  have E4 : x4 = x1 := vn8 hb
  have E5 : x5 = a % M256 := vn8 ha
  have E7 : x7 = a % M256 := vn8 ha
  have E8 : x8 = x1 := vn8 hb
  have E6 : x6 = remL x5 x4 8 := rfl
  have T : ∀ i : Nat, True := fun _ => trivial
  have hM : 0 < M256 := by decide
  have K0 : conj [x1 == 0] = true → ((0 = x2 ∧ True) ∧ (0 = x3 ∧ True) ∧ (7 : Int) = e) := fun h => by
    rw [eq0_conj] at h
    have h := eq_of_beq h
    rw [← E1, if_pos h] at hq hs he
    have e2 : x2 = q % M256 := rfl
    have e3 : x3 = s % M256 := rfl
    rw [e2, e3, hq, hs, he, Nat.zero_mod]
    exact ⟨⟨rfl, trivial⟩, ⟨rfl, trivial⟩, rfl⟩
  have N0 : conj [x1 == 0] = false → x1 ≠ 0 := fun h => by
    rw [eq0_conj] at h
    exact ne_of_beq_false h
  have K1 : conj [x1 == 0] = false → x4 ≠ 0 := fun h => by rw [E4]; exact N0 h
  have K2 : conj [x1 == 0] = false → x6 ≤ 1000 := fun h => by
    have h := N0 h
    have := remL_le (X := x5) (n := 8) (show 0 < x4 by omega) (by omega)
    omega
  have F : conj [x1 == 0] = false → ((vn 8 fun i => dg (x5 / x4) i) % M256 % M256 = x2 ∧ True) ∧ ((vn x6 fun i => dg (x5 % x4) i) % M256 % M256 = x3 ∧ True) ∧ (0 : Int) = e := fun h => by
    have h := N0 h
    rw [← E1, if_neg h] at hq hs he
    have e2 : x2 = q % M256 := rfl
    have e3 : x3 = s % M256 := rfl
    have hx5 : x5 < 4294967296 ^ 8 := by rw [E5]; exact ha
    rw [e2, e3, he, E6, vnk (remL_lt hx5 (by omega)), vn8 (Nat.lt_of_le_of_lt (Nat.div_le_self _ _) (by omega)), hq, hs, E4, E5, Nat.mod_mod, Nat.mod_mod]
    exact ⟨⟨rfl, trivial⟩, ⟨rfl, trivial⟩, rfl⟩
  clear N0 E1 E4 E5 E7 E8 E6 hq hs he hM
  clear_value x1 x2 x3 x4 x5 x6 x7 x8
  repeat' (first | exact T | exact K0 (by assumption) | exact K1 (by assumption) | exact K2 (by assumption) | exact F (by assumption) | exact dgs_dg _ _ | exact (show (8 : Nat) ≤ 1000 by decide) | exact (show (8 : Nat) ≤ 900 by decide) | (intro _ _ _ _) | (refine And.intro ?_ ?_) | (intro _))
theorem ok_refRest (a : Option Addr) (n c : Nat) (f : Nat → Int) (m : Nat) (hf : dgs n f) (hn : n ≤ 1000) (hm : m % M256 ≠ 0) : OwesR Try.prog .none slAll [] 4 Try.f46 [xsI a n c .u64 f, sU m] false (restUR n f m) := by
  rw [vc_refRest]
  intro x1 x2 x3 x4 x5
  have hb : x1 < M256 := modM m
  have E2 : x2 = x1 := vn8 hb
  have E3 : x3 = remL (vn n f) x2 n := rfl
  have T : ∀ i : Nat, True := fun _ => trivial
  have hx : x1 ≠ 0 := hm
  have K1 : x2 ≠ 0 := by rw [E2]; exact hx
  have K2 : x3 ≤ 1000 := by
    have := remL_le (X := vn n f) (n := n) (show 0 < x2 by omega) (by omega)
    omega
  have F : (vn x3 fun i => dg ((vn n fun i => f i) % x2) i) % M256 % M256 = vn n f % x1 % M256 ∧ True := by
    rw [E3, show (fun i => f i) = f from rfl, vnk (remL_lt (vn_lt hf) (by omega)), E2, Nat.mod_mod]
    exact ⟨rfl, trivial⟩
  clear E2 E3
  clear_value x1 x2 x3 x4 x5
  repeat' (first | exact T | exact K1 | exact K2 | exact F | exact hf | exact hn | exact dgs_dg _ _ | exact (show (8 : Nat) ≤ 1000 by decide) | exact (show (8 : Nat) ≤ 900 by decide) | (intro _ _ _ _) | (refine And.intro ?_ ?_) | (intro _))
theorem card_refRest : FnOKs Try.prog [] 46 (specDU restUC restUR) :=
  FnOKs_DU (iv := fun _ _ _ _ _ => []) cx_none sl_all Try.func46 (by kernel_rfl) (by kernel_rfl) (fun _ _ _ x hx => by simp only [restUR, List.mem_singleton] at hx; subst hx; exact bnd_Un _) fun a n c f m ⟨h1, h2, h3, _⟩ => ok_refRest a n c f m h1 h2 h3
theorem sl_rest : ∀ p ∈ slRest, FnOKs Try.prog [] p.1 p.2 := fun p hp => by
  rcases List.mem_cons.1 hp with rfl | hp
  · exact card_refRest
  · exact sl_all p hp
theorem ok_refOpp (a m : Nat) (h : a % M256 ≤ m % M256) : OwesV Try.prog .none slAll [] 4 Try.f42 [sU a, sU m] (oppG a m) := by
  unfold oppG
  obtain ⟨r, hr⟩ : ∃ r, r = (if a % M256 = 0 then 0 else m % M256 - a % M256) := ⟨_, rfl⟩
  rw [← hr, vc_refOpp]
  intro x1 x2 x3 x4
  have h1 : x1 < M256 := modM a
  have h2 : m % M256 < M256 := modM m
  have E1 : x1 = a % M256 := rfl
  have E2 : x2 = r % M256 := rfl
  have E3 : x3 = x1 := vn8 h1
  have E4 : x4 = m % M256 := vn8 h2
  have T : ∀ i : Nat, True := fun _ => trivial
  have hM : 0 < M256 := by decide
  have K0 : conj [x1 == 0] = true → x1 = x2 ∧ True := fun h => by
    rw [eq0_conj] at h
    have h := eq_of_beq h
    rw [← E1, if_pos h] at hr
    rw [E2, hr, h, Nat.zero_mod]
    exact ⟨rfl, trivial⟩
  have K1 : x3 ≤ x4 := by rw [E3, E4, E1]; exact h
  have F : conj [x1 == 0] = false → (vn 8 fun i => dg (x4 - x3) i) % M256 % M256 = x2 ∧ True := fun h => by
    rw [eq0_conj] at h
    have h := ne_of_beq_false h
    rw [← E1, if_neg h] at hr
    rw [vn8 (by omega), E2, hr, E4, E3, Nat.mod_mod]
    exact ⟨rfl, trivial⟩
  clear E1 E2 E3 E4 hr h hM
  clear_value x1 x2 x3 x4
  repeat' (first | exact T | exact K0 (by assumption) | exact K1 | exact F (by assumption) | exact dgs_dg _ _ | exact (show (8 : Nat) ≤ 1000 by decide) | (intro _ _ _ _) | (refine And.intro ?_ ?_) | (intro _))
end Go.Proofs.Ytjokmekclibpmaa
end

section
namespace Go.Proofs.Ytjokmekclibpmaa
open Go Go.Sx Go.RowKit
theorem ok_refTot (a b m : Nat) (hm : m % M256 ≠ 0) : OwesV Try.prog .none slRest [] 4 Try.f20 [sU a, sU b, sU m] (totG a b m) := by
  rw [vc_refTot]
  intro x1 x2 x3
  have h1 : x1 < M256 := modM a
  have h2 : x2 < M256 := modM b
  have T : ∀ i : Nat, True := fun _ => trivial
  have K : x3 ≠ 0 := hm
  have F : (vn 9 fun i => dg ((vn 8 fun i => dg x1 i) + vn 8 fun i => dg x2 i) i) % x3 % M256 = (x1 + x2) % x3 % M256 ∧ True := by
    rw [vn8 h1, vn8 h2, vnk (by rw [M9]; omega)]
    exact ⟨rfl, trivial⟩
  clear_value x1 x2 x3
  repeat' (first | exact T | exact K | exact F | exact dgs_dg _ _ | exact (show (8 : Nat) ≤ 1000 by decide) | exact (show (9 : Nat) ≤ 1000 by decide) | (intro _ _ _ _) | (refine And.intro ?_ ?_))
theorem or_zero {a b c : Int} (ha : 0 ≤ a ∧ a < 18446744073709551616) (hb : 0 ≤ b ∧ b < 18446744073709551616) (hc : 0 ≤ c ∧ c < 18446744073709551616)
    (h : (IntKind.u64.wrap (↑(BitVec.ofInt 64 (IntKind.u64.wrap (↑(BitVec.ofInt 64 a ||| BitVec.ofInt 64 b).toNat)) ||| BitVec.ofInt 64 c).toNat) == 0) = true) : a = 0 ∧ b = 0 ∧ c = 0 := by
  have h := eq_of_beq h
  have l : ∀ x : BitVec 64, IntKind.u64.wrap (x.toNat : Int) = (x.toNat : Int) := fun x => wrap64 ⟨Int.natCast_nonneg _, by have := x.isLt; omega⟩
  have e : ∀ x : BitVec 64, BitVec.ofInt 64 (x.toNat : Int) = x := fun x => by
    apply BitVec.eq_of_toNat_eq
    rw [BitVec.toNat_ofInt]
    have := x.isLt
    omega
  rw [l, l, e] at h
  have h : (BitVec.ofInt 64 a ||| BitVec.ofInt 64 b) ||| BitVec.ofInt 64 c = 0#64 := by
    apply BitVec.eq_of_toNat_eq
    show _ = 0
    omega
  rw [BitVec.or_eq_zero_iff, BitVec.or_eq_zero_iff] at h
  have z : ∀ y : Int, 0 ≤ y ∧ y < 18446744073709551616 → BitVec.ofInt 64 y = 0#64 → y = 0 := fun y hy h => by
    have := congrArg BitVec.toNat h
    rw [BitVec.toNat_ofInt] at this
    simp at this
    omega
  exact ⟨z a ha h.1.1, z b hb h.1.2, z c hc h.2⟩
theorem limb_range (a i : Nat) : 0 ≤ limb a i ∧ limb a i < 18446744073709551616 := ⟨limb_nonneg a i, limb_lt a i⟩
theorem small_modD {m : Nat} (h1 : limb m 1 = 0) (h2 : limb m 2 = 0) (h3 : limb m 3 = 0) : ((m % M256 : Nat) : Int) = limb m 0 := by
  have := join_limbs m
  rw [h1, h2, h3] at this
  unfold join at this
  have r := limb_range m 0
  omega
theorem small_limb {a : Nat} (h : a % M256 < 18446744073709551616) : limb a 0 = ((a % M256 : Nat) : Int) := by
  have := join_limbs a
  unfold join at this
  have r0 := limb_range a 0
  have r1 := limb_range a 1
  have r2 := limb_range a 2
  have r3 := limb_range a 3
  omega
theorem ok_refPro (a b m : Nat) (hm : m % M256 ≠ 0) (ha : a % M256 < m % M256) (hb : b % M256 < m % M256) : OwesV Try.prog .none slRest [] 4 Try.f21 [sU a, sU b, sU m] (proG a b m) := by
  unfold proG
  rw [vc_refPro]
  intro x1 x2 x3 x4
  have h1 := modM a
  have h2 := modM b
  have E3 : x3 = a % M256 * (b % M256) % (m % M256) % M256 := rfl
  have E4 : x4 = m % M256 := rfl
  have E1 : x1 = (IntKind.u64.wrap (↑(BitVec.ofInt 64 (IntKind.u64.wrap (↑(BitVec.ofInt 64 (limb m 1) ||| BitVec.ofInt 64 (limb m 2)).toNat)) ||| BitVec.ofInt 64 (limb m 3)).toNat) == 0) := rfl
  have E2 : x2 = (IntKind.u64.wrap (limb a 0 * limb b 0)).tmod (limb m 0) := rfl
  have T : ∀ i : Nat, True := fun _ => trivial
  have K : x4 ≠ 0 := hm
  have Z : (0 : Int) ≤ 0 ∧ (0 : Int) < 18446744073709551616 := by decide
  have F : (vn 16 fun i => dg ((vn 8 fun i => dg (a % M256) i) * vn 8 fun i => dg (b % M256) i) i) % x4 % M256 = x3 ∧ True := by
    rw [vn8 h1, vn8 h2, vnk (by rw [M16]; exact Nat.lt_of_le_of_lt (Nat.mul_le_mul (Nat.le_of_lt h1) (Nat.le_refl _)) (Nat.mul_lt_mul_of_pos_left h2 (by decide))), E3, E4]
    exact ⟨rfl, trivial⟩
  have S : (x1 && decide (limb m 0 < 4294967296)) = true → limb m 0 ≠ 0 ∧ (0 ≤ x2 ∧ x2 < 18446744073709551616) ∧ join x2 0 0 0 % M256 = x3 ∧ True := fun h => by
    rw [Bool.and_eq_true] at h
    obtain ⟨e1, e2⟩ := h
    rw [E1] at e1
    have e2 := of_decide_eq_true e2
    obtain ⟨z1, z2, z3⟩ := or_zero (limb_range m 1) (limb_range m 2) (limb_range m 3) e1
    have em := small_modD z1 z2 z3
    have hA : a % M256 < 4294967296 := by omega
    have hB : b % M256 < 4294967296 := by omega
    have eA := small_limb (a := a) (by omega)
    have eB := small_limb (a := b) (by omega)
    have hp : a % M256 * (b % M256) < 18446744073709551616 := Nat.lt_of_le_of_lt (Nat.mul_le_mul (show a % M256 ≤ 4294967295 by omega) (show b % M256 ≤ 4294967295 by omega)) (by decide)
    have e3 : x2 = ((a % M256 * (b % M256) % (m % M256) : Nat) : Int) := by
      rw [E2, eA, eB, ← em, ← Int.natCast_mul, wrap64 ⟨Int.natCast_nonneg _, by omega⟩, Int.tmod_eq_emod_of_nonneg (Int.natCast_nonneg _)]
      exact (Int.natCast_emod _ _).symm
    have hlt : a % M256 * (b % M256) % (m % M256) < m % M256 := Nat.mod_lt _ (by omega)
    refine ⟨by omega, by omega, ?_, trivial⟩
    rw [E3]
    have : join x2 0 0 0 = a % M256 * (b % M256) % (m % M256) := by
      unfold join
      rw [e3, Int.toNat_natCast]
      rfl
    rw [this]
  clear E1 E2 E3 E4 ha hb h1 h2
  clear_value x1 x2 x3 x4
  refine ⟨id, id, id, fun h => ⟨(S h).1, (S h).2.1, Z, Z, Z, (S h).2.2⟩, fun _ => ?_⟩
  repeat' (first | exact T | exact K | exact F | exact dgs_dg _ _ | exact (show (8 : Nat) ≤ 1000 by decide) | exact (show (16 : Nat) ≤ 1000 by decide) | (intro _ _ _ _) | (refine And.intro ?_ ?_))
def quoG (a b : Nat) : SV := .tup [sU (if b % M256 = 0 then 0 else a % M256 / (b % M256)), sU (if b % M256 = 0 then 0 else a % M256 % (b % M256)), sI .i64 (if b % M256 = 0 then 7 else 0)]
theorem card_refQuo : FnOK Try.prog 40 (specUU quoG) :=
  FnOKV_UU (iv := fun _ _ => []) cx_none sl_all Try.func40 (by kernel_rfl) (by kernel_rfl) (fun a b x hx => by
    simp only [List.mem_cons, List.not_mem_nil, or_false] at hx
    rcases hx with rfl | rfl | rfl
    · exact bnd_Un _
    · exact bnd_Un _
    · trivial) ok_refQuo
theorem card_refOrd : FnOK Try.prog 19 (specUU ordG) :=
  FnOKV_UU (iv := fun _ _ => []) cx_none sl_all Try.func19 (by kernel_rfl) (by kernel_rfl) (fun a b => trivial) ok_refOrd
theorem card_refTot : FnOK Try.prog 20 (specUUU modC totG) :=
  FnOKV_UUU (iv := fun _ _ _ => []) cx_none sl_rest Try.func20 (by kernel_rfl) (by kernel_rfl) (fun _ _ _ => bnd_Un _) fun a b m ⟨h, _⟩ => ok_refTot a b m h
theorem card_refOpp : FnOK Try.prog 42 (specUUC oppC oppG) :=
  FnOKV_UUC (iv := fun _ _ => []) cx_none sl_all Try.func42 (by kernel_rfl) (by kernel_rfl) (fun _ _ => bnd_Un _) fun a m ⟨h, _⟩ => ok_refOpp a m h
theorem card_refPro : FnOK Try.prog 21 (specUUU proC proG) :=
  FnOKV_UUU (iv := fun _ _ _ => []) cx_none sl_rest Try.func21 (by kernel_rfl) (by kernel_rfl) (fun _ _ _ => bnd_Un _) fun a b m ⟨h1, h2, h3, _⟩ => ok_refPro a b m h1 h2 h3
end Go.Proofs.Ytjokmekclibpmaa
end

section
namespace Go.Proofs.Ytjokmekclibpmaa
open Go Go.Sx Go.RowKit
set_option maxRecDepth 100000
end Go.Proofs.Ytjokmekclibpmaa
end

section
namespace Go.Proofs.Ytjokmekclibpmaa
open Go Go.Sx Go.RowKit
end Go.Proofs.Ytjokmekclibpmaa
end

section
namespace Go.Proofs.Ytjokmekclibpmaa
open Go Go.Sx Go.RowKit
set_option maxRecDepth 100000
end Go.Proofs.Ytjokmekclibpmaa
end

section
namespace Go.Proofs.Ytjokmekclibpmaa
open Go Go.Sx Go.RowKit
end Go.Proofs.Ytjokmekclibpmaa
end

section
namespace Go.Proofs.Ytjokmekclibpmaa
open Go Go.Sx Go.RowKit
set_option maxRecDepth 100000
def u4z : List SK := List.replicate 4 (.c (.num .u64 0))
def invRPo (a x m : Nat) (A O : Nat → Nat) : Inv where
  X := Nat
  tm y := slotsAt 37 [(3, .one (.sc (.ptr 0 0))), (4, .one (.sc (.ptr 1 0))), (5, .one (.sc (.ptr 2 0))), (6, .one (.sc (.ptr 3 0))), (7, .one (.sc (.ptr 5 0))), (14, .one (sU x)), (15, .one (sI .i64 (y : Int)))]
  ob y := [.cells 24 [.u (A (64 * y))] 0, .cells 24 [.u x] 0, .cells 24 [.u m] 0, .cells 24 u4z 0, .dead, .cells 24 [.u (O (64 * y))] 0]
  holds y := y ≤ 4
  less y := 4 - y
def invRPi (a x m : Nat) (A O : Nat → Nat) : Inv where
  X := Nat × Nat
  tm y := slotsAt 37 [(3, .one (.sc (.ptr 0 0))), (4, .one (.sc (.ptr 1 0))), (5, .one (.sc (.ptr 2 0))), (6, .one (.sc (.ptr 3 0))), (7, .one (.sc (.ptr 5 0))), (9, .one (sI .u64 (limb x y.1))), (10, .one (sI .i64 (y.2 : Int))), (14, .one (sU x)), (15, .one (sI .i64 (y.1 : Int)))]
  ob y := [.cells 24 [.u (A (64 * y.1 + y.2))] 0, .cells 24 [.u x] 0, .cells 24 [.u m] 0, .cells 24 u4z 0, .dead, .cells 24 [.u (O (64 * y.1 + y.2))] 0]
  holds y := y.1 < 4 ∧ y.2 ≤ 64
  less y := 64 - y.2
def rpoC (a _ m : Nat) : List Prop := [m % M256 ≠ 0, a % M256 < m % M256]
def rpoG (a x m : Nat) : SV := .one (sU ((a % M256) ^ (x % M256) % (m % M256)))
def cxRPo : Cx := [(21, specUUU proC proG)]
theorem vc_refPower (a x m : Nat) (A O : Nat → Nat) (r : Nat) :
    OwesV Try.prog cxRPo slRest [(3, .inv (invRPo a x m A O)), (6, .invR (invRPi a x m A O) (fun y z => z.1 = y.1))] 4 Try.f23 [sU a, sU x, sU m] (.one (sU r)) =
    (let x1 : Nat := m % M256; let x2 : Nat := x % M256; 1 ≤ 1 ∧ ∀ (a_1 : Go.Addr), (∀ (i : Nat), True) ∧ (dgs 1 fun (i : Nat) => intsC (SC.val (Go.Value.int (Go.IntKind.u64, (1 : Int)).fst (selG [SK.c (SC.num Go.IntKind.u64 (1 : Int))] i)))) ∧ 1 ≤ 1000 ∧ x1 ≠ 0 ∧ (∀ (y : Nat), closedB (slotsAt 37 [(3, SV.one (SA.sc (SC.ptr 0 0))), (4, SV.one (SA.sc (SC.ptr 1 0))), (5, SV.one (SA.sc (SC.ptr 2 0))), (6, SV.one (SA.sc (SC.ptr 3 0))), (7, SV.one (SA.sc (SC.ptr 5 0))), (14, SV.one (sU x)), (15, SV.one (sI Go.IntKind.i64 (↑y : Int)))]) [SO.cells (24 : Go.TypeId) [SK.u (A (64 * y))] 0, SO.cells (24 : Go.TypeId) [SK.u x] 0, SO.cells (24 : Go.TypeId) [SK.u m] 0, SO.cells (24 : Go.TypeId) u4z 0, SO.dead, SO.cells (24 : Go.TypeId) [SK.u (O (64 * y))] 0] = Bool.true) ∧ ∃ (y : Nat), y ≤ 4 ∧ x2 = x2 ∧ (0 : Int) = (↑y : Int) ∧ a % M256 = A (64 * y) % M256 ∧ 0 = 0 ∧ x2 = x2 ∧ 0 = 0 ∧ x1 = x1 ∧ 0 = 0 ∧ 0 = 0 ∧ 1 % x1 % M256 = O (64 * y) % M256 ∧ 0 = 0 ∧ ∀ (y : Nat), y ≤ 4 → (Decidable.decide ((↑y : Int) < (4 : Int)) = Bool.true → ((0 : Int) ≤ (↑y : Int) ∧ (↑y : Int) < (4 : Int)) ∧ (∀ (y : Nat × Nat), closedB (slotsAt 37 [(3, SV.one (SA.sc (SC.ptr 0 0))), (4, SV.one (SA.sc (SC.ptr 1 0))), (5, SV.one (SA.sc (SC.ptr 2 0))), (6, SV.one (SA.sc (SC.ptr 3 0))), (7, SV.one (SA.sc (SC.ptr 5 0))), (9, SV.one (sI Go.IntKind.u64 (limb x y.fst))), (10, SV.one (sI Go.IntKind.i64 (↑y.snd : Int))), (14, SV.one (sU x)), (15, SV.one (sI Go.IntKind.i64 (↑y.fst : Int)))]) [SO.cells (24 : Go.TypeId) [SK.u (A (64 * y.fst + y.snd))] 0, SO.cells (24 : Go.TypeId) [SK.u x] 0, SO.cells (24 : Go.TypeId) [SK.u m] 0, SO.cells (24 : Go.TypeId) u4z 0, SO.dead, SO.cells (24 : Go.TypeId) [SK.u (O (64 * y.fst + y.snd))] 0] = Bool.true) ∧ ∃ (y0 : Nat × Nat), ((y0.fst < 4 ∧ y0.snd ≤ 64) ∧ y0.fst = y0.fst) ∧ limb x (↑y : Int).toNat = limb x y0.fst ∧ (0 : Int) = (↑y0.snd : Int) ∧ x2 = x2 ∧ (↑y : Int) = (↑y0.fst : Int) ∧ A (64 * y) % M256 = A (64 * y0.fst + y0.snd) % M256 ∧ 0 = 0 ∧ x2 = x2 ∧ 0 = 0 ∧ x1 = x1 ∧ 0 = 0 ∧ 0 = 0 ∧ O (64 * y) % M256 = O (64 * y0.fst + y0.snd) % M256 ∧ 0 = 0 ∧ ∀ (y_1 : Nat × Nat), y_1.fst < 4 ∧ y_1.snd ≤ 64 → y_1.fst = y0.fst → (Decidable.decide ((↑y_1.snd : Int) < (64 : Int)) = Bool.true → (0 : Int) ≤ (↑y_1.snd : Int) ∧ ((Go.IntKind.u64.wrap (↑(BitVec.ofInt 64 ((limb x y_1.fst).fdiv ((2 : Int) ^ Min.min (↑y_1.snd : Int).toNat 64)) &&& BitVec.ofInt 64 (1 : Int)).toNat : Int) == (1 : Int)) = Bool.true → x1 ≠ 0 ∧ O (64 * y_1.fst + y_1.snd) % M256 < x1 ∧ A (64 * y_1.fst + y_1.snd) % M256 < x1 ∧ x1 ≠ 0 ∧ A (64 * y_1.fst + y_1.snd) % M256 < x1 ∧ A (64 * y_1.fst + y_1.snd) % M256 < x1 ∧ ∃ (y' : Nat × Nat), ((y'.fst < 4 ∧ y'.snd ≤ 64) ∧ y'.fst = y0.fst) ∧ limb x y_1.fst = limb x y'.fst ∧ Go.IntKind.i64.wrap ((↑y_1.snd : Int) + (1 : Int)) = (↑y'.snd : Int) ∧ x2 = x2 ∧ (↑y_1.fst : Int) = (↑y'.fst : Int) ∧ A (64 * y_1.fst + y_1.snd) % M256 * (A (64 * y_1.fst + y_1.snd) % M256) % x1 % M256 = A (64 * y'.fst + y'.snd) % M256 ∧ 0 = 0 ∧ x2 = x2 ∧ 0 = 0 ∧ x1 = x1 ∧ 0 = 0 ∧ 0 = 0 ∧ O (64 * y_1.fst + y_1.snd) % M256 * (A (64 * y_1.fst + y_1.snd) % M256) % x1 % M256 = O (64 * y'.fst + y'.snd) % M256 ∧ 0 = 0 ∧ 64 - y'.snd < 64 - y_1.snd) ∧ ((Go.IntKind.u64.wrap (↑(BitVec.ofInt 64 ((limb x y_1.fst).fdiv ((2 : Int) ^ Min.min (↑y_1.snd : Int).toNat 64)) &&& BitVec.ofInt 64 (1 : Int)).toNat : Int) == (1 : Int)) = Bool.false → x1 ≠ 0 ∧ A (64 * y_1.fst + y_1.snd) % M256 < x1 ∧ A (64 * y_1.fst + y_1.snd) % M256 < x1 ∧ ∃ (y' : Nat × Nat), ((y'.fst < 4 ∧ y'.snd ≤ 64) ∧ y'.fst = y0.fst) ∧ limb x y_1.fst = limb x y'.fst ∧ Go.IntKind.i64.wrap ((↑y_1.snd : Int) + (1 : Int)) = (↑y'.snd : Int) ∧ x2 = x2 ∧ (↑y_1.fst : Int) = (↑y'.fst : Int) ∧ A (64 * y_1.fst + y_1.snd) % M256 * (A (64 * y_1.fst + y_1.snd) % M256) % x1 % M256 = A (64 * y'.fst + y'.snd) % M256 ∧ 0 = 0 ∧ x2 = x2 ∧ 0 = 0 ∧ x1 = x1 ∧ 0 = 0 ∧ 0 = 0 ∧ O (64 * y_1.fst + y_1.snd) % M256 = O (64 * y'.fst + y'.snd) % M256 ∧ 0 = 0 ∧ 64 - y'.snd < 64 - y_1.snd)) ∧ (Decidable.decide ((↑y_1.snd : Int) < (64 : Int)) = Bool.false → ∃ (y' : Nat), y' ≤ 4 ∧ x2 = x2 ∧ Go.IntKind.i64.wrap ((↑y_1.fst : Int) + (1 : Int)) = (↑y' : Int) ∧ A (64 * y_1.fst + y_1.snd) % M256 = A (64 * y') % M256 ∧ 0 = 0 ∧ x2 = x2 ∧ 0 = 0 ∧ x1 = x1 ∧ 0 = 0 ∧ 0 = 0 ∧ O (64 * y_1.fst + y_1.snd) % M256 = O (64 * y') % M256 ∧ 0 = 0 ∧ 4 - y' < 4 - y)) ∧ (Decidable.decide ((↑y : Int) < (4 : Int)) = Bool.false → O (64 * y) % M256 = r % M256 ∧ True)) := by kernel_rfl
end Go.Proofs.Ytjokmekclibpmaa
end

section
namespace Go.Proofs.Ytjokmekclibpmaa
open Go Go.Sx Go.RowKit
theorem mod2_succ (x j : Nat) : x % 2 ^ (j + 1) = x % 2 ^ j + 2 ^ j * (x.testBit j).toNat := by rw [Nat.mod_pow_succ, Nat.toNat_testBit]
def pwA (a m j : Nat) : Nat := a ^ (2 ^ j) % m
def pwO (a x m j : Nat) : Nat := a ^ (x % 2 ^ j) % m
theorem pwA_step (a m j : Nat) : pwA a m j * pwA a m j % m = pwA a m (j + 1) := by
  unfold pwA
  rw [← Nat.mul_mod, ← Nat.pow_add, Nat.pow_succ 2 j]
  exact congrArg (fun v => a ^ v % m) (by omega)
theorem pwO_one {a x m j : Nat} (h : x.testBit j = true) : pwO a x m j * pwA a m j % m = pwO a x m (j + 1) := by
  unfold pwO pwA
  rw [← Nat.mul_mod, ← Nat.pow_add, mod2_succ, h]
  exact congrArg (fun v => a ^ v % m) (by simp)
theorem pwO_zero {a x m j : Nat} (h : x.testBit j = false) : pwO a x m j = pwO a x m (j + 1) := by
  unfold pwO
  rw [mod2_succ, h]
  exact congrArg (fun v => a ^ v % m) (by simp)
theorem ok_refPower (a x m : Nat) (hm : m % M256 ≠ 0) (ha : a % M256 < m % M256) :
    OwesV Try.prog cxRPo slRest [(3, .inv (invRPo a x m (pwA (a % M256) (m % M256)) (pwO (a % M256) (x % M256) (m % M256)))), (6, .invR (invRPi a x m (pwA (a % M256) (m % M256)) (pwO (a % M256) (x % M256) (m % M256))) (fun y z => z.1 = y.1))] 4 Try.f23 [sU a, sU x, sU m] (rpoG a x m) := by
  unfold rpoG
  rw [vc_refPower]
  have hbit := fun j hj => limb_bit x j hj
  have hxM := modM x
  have hmM := modM m
  have M0 : 0 < M256 := by decide
  intro x1 x2
  have E1 : x1 = m % M256 := rfl
  have E2 : x2 = x % M256 := rfl
  rw [← E1] at hm ha hmM
  rw [← E2] at hxM
  simp only [← E2] at hbit
  rw [← E1, ← E2]
  clear_value x1 x2
  generalize a % M256 = a' at *
  have hpos : 0 < x1 := by omega
  have hlt : ∀ v : Nat, v % x1 < M256 := fun v => Nat.lt_trans (Nat.mod_lt v hpos) hmM
  have hmm : ∀ v : Nat, v % x1 % M256 = v % x1 := fun v => Nat.mod_eq_of_lt (hlt v)
  have hA : ∀ j, pwA a' x1 j % M256 = pwA a' x1 j := fun j => hmm _
  have hO : ∀ j, pwO a' x2 x1 j % M256 = pwO a' x2 x1 j := fun j => hmm _
  have lA : ∀ j, pwA a' x1 j < x1 := fun j => Nat.mod_lt _ hpos
  have lO : ∀ j, pwO a' x2 x1 j < x1 := fun j => Nat.mod_lt _ hpos
  refine ⟨Nat.le_refl _, fun _ => ⟨fun _ => trivial, ⟨fun i hi => ?_⟩, by decide, hm, fun _ => rfl, 0, by decide, rfl, rfl, ?_, rfl, rfl, rfl, rfl, rfl, rfl, ?_, rfl, fun w hw => ⟨fun h1 => ⟨⟨by omega, of_decide_eq_true h1⟩, fun _ => rfl, (w, 0), ⟨⟨?_, by show 0 ≤ 64; omega⟩, rfl⟩, by rw [Int.toNat_natCast], rfl, rfl, rfl, rfl, rfl, rfl, rfl, rfl, rfl, rfl, rfl, rfl, fun ⟨w', i⟩ ⟨hw', hi⟩ e => ⟨fun h2 => ⟨by omega, fun h3 => ?_, fun h3 => ?_⟩, fun h2 => ?_⟩⟩, fun h1 => ?_⟩⟩⟩
  · have : i = 0 := by omega
    subst this
    exact ⟨by decide, by decide⟩
  · show a' = pwA a' x1 (64 * 0) % M256
    rw [hA]
    unfold pwA
    rw [Nat.mul_zero, Nat.pow_zero, Nat.pow_one, Nat.mod_eq_of_lt ha]
  · show 1 % x1 % M256 = pwO a' x2 x1 (64 * 0) % M256
    rw [hO, hmm]
    unfold pwO
    rw [Nat.mul_zero, Nat.pow_zero, Nat.mod_one, Nat.pow_zero]
  · have h1 : (w : Int) < 4 := of_decide_eq_true h1
    show w < 4; omega
  · have e : w' = w := e
    subst e
    have hw' : w' < 4 := hw'
    have h2 : (i : Int) < 64 := of_decide_eq_true h2
    have hb := hbit (64 * w' + i) (by omega)
    rw [show (64 * w' + i) / 64 = w' by omega, show (64 * w' + i) % 64 = i by omega] at hb
    have h3 : (IntKind.u64.wrap (↑(BitVec.ofInt 64 ((limb x w').fdiv (2 ^ Min.min ((i : Int)).toNat 64)) &&& BitVec.ofInt 64 1).toNat) == 1) = true := h3
    rw [two_min i (by omega), hb] at h3
    have K : pwA a' x1 (64 * w' + i) % M256 < x1 := by rw [hA]; exact lA _
    have L : pwO a' x2 x1 (64 * w' + i) % M256 < x1 := by rw [hO]; exact lO _
    refine ⟨hm, L, K, hm, K, K, (w', i + 1), ⟨⟨hw', by show i + 1 ≤ 64; omega⟩, rfl⟩, rfl, ?_, rfl, rfl, ?_, rfl, rfl, rfl, rfl, rfl, rfl, ?_, rfl, by show 64 - (i + 1) < 64 - i; omega⟩
    · show IntKind.i64.wrap ((i : Int) + 1) = ((i + 1 : Nat) : Int)
      rw [wrapi (by omega)]; rfl
    · show pwA a' x1 (64 * w' + i) % M256 * (pwA a' x1 (64 * w' + i) % M256) % x1 % M256 = pwA a' x1 (64 * w' + (i + 1)) % M256
      rw [hA, pwA_step, ← Nat.add_assoc]
    · show pwO a' x2 x1 (64 * w' + i) % M256 * (pwA a' x1 (64 * w' + i) % M256) % x1 % M256 = pwO a' x2 x1 (64 * w' + (i + 1)) % M256
      rw [hA, hO, pwO_one h3, ← Nat.add_assoc]
  · have e : w' = w := e
    subst e
    have hw' : w' < 4 := hw'
    have h2 : (i : Int) < 64 := of_decide_eq_true h2
    have hb := hbit (64 * w' + i) (by omega)
    rw [show (64 * w' + i) / 64 = w' by omega, show (64 * w' + i) % 64 = i by omega] at hb
    have h3 : (IntKind.u64.wrap (↑(BitVec.ofInt 64 ((limb x w').fdiv (2 ^ Min.min ((i : Int)).toNat 64)) &&& BitVec.ofInt 64 1).toNat) == 1) = false := h3
    rw [two_min i (by omega), hb] at h3
    have K : pwA a' x1 (64 * w' + i) % M256 < x1 := by rw [hA]; exact lA _
    refine ⟨hm, K, K, (w', i + 1), ⟨⟨hw', by show i + 1 ≤ 64; omega⟩, rfl⟩, rfl, ?_, rfl, rfl, ?_, rfl, rfl, rfl, rfl, rfl, rfl, ?_, rfl, by show 64 - (i + 1) < 64 - i; omega⟩
    · show IntKind.i64.wrap ((i : Int) + 1) = ((i + 1 : Nat) : Int)
      rw [wrapi (by omega)]; rfl
    · show pwA a' x1 (64 * w' + i) % M256 * (pwA a' x1 (64 * w' + i) % M256) % x1 % M256 = pwA a' x1 (64 * w' + (i + 1)) % M256
      rw [hA, pwA_step, ← Nat.add_assoc]
    · show pwO a' x2 x1 (64 * w' + i) % M256 = pwO a' x2 x1 (64 * w' + (i + 1)) % M256
      rw [pwO_zero h3, ← Nat.add_assoc]
  · have e : w' = w := e
    subst e
    have hi : i ≤ 64 := hi
    have h2 : ¬ (i : Int) < 64 := of_decide_eq_false h2
    have : i = 64 := by omega
    subst this
    have hw' : w' < 4 := hw'
    refine ⟨w' + 1, by omega, rfl, ?_, ?_, rfl, rfl, rfl, rfl, rfl, rfl, ?_, rfl, by omega⟩
    · show IntKind.i64.wrap ((w' : Int) + 1) = ((w' + 1 : Nat) : Int)
      rw [wrapi (by omega)]; rfl
    · rfl
    · rfl
  · have h1 : ¬ (w : Int) < 4 := of_decide_eq_false h1
    have : w = 4 := by omega
    subst this
    refine ⟨?_, trivial⟩
    unfold pwO
    rw [show 64 * 4 = 256 by rfl, Nat.mod_eq_of_lt (show x2 < 2 ^ 256 from hxM)]
theorem card_refPower : FnOK Try.prog 23 (specUUU rpoC rpoG) :=
  FnOKV_UUU (iv := fun a x m => [(3, .inv (invRPo a x m (pwA (a % M256) (m % M256)) (pwO (a % M256) (x % M256) (m % M256)))), (6, .invR (invRPi a x m (pwA (a % M256) (m % M256)) (pwO (a % M256) (x % M256) (m % M256))) (fun y z => z.1 = y.1))]) (CxOK_cons card_refPro CxOK_nil) sl_rest Try.func23 (by kernel_rfl) (by kernel_rfl) (fun _ _ _ => bnd_Un _) fun a x m ⟨h1, h2, _⟩ => ok_refPower a x m h1 h2
end Go.Proofs.Ytjokmekclibpmaa
end

section
namespace Go.Proofs.Ytjokmekclibpmaa
open Go Go.Sx Go.RowKit
set_option maxRecDepth 100000
def specWU (c : Int → Nat → List Prop) (g : Int → Nat → SV) : FSpec := fun args =>
  match args with
  | [x, y] => match asI x, asU y with
    | some (.u64, n), some (p, m) => some (p ++ c n m, g n m)
    | _, _ => none
  | _ => none
def rbyC (n : Int) (m : Nat) : List Prop := [0 ≤ n ∧ n < 18446744073709551616, m % M256 ≠ 0]
def rbyG (n : Int) (m : Nat) : SV := .one (sU (n.toNat % (m % M256)))
def rrgC : List (List At) → List Prop
  | [[.u P, .u _, .u _, .u _, .u _, .u _, .b _], [.u x]] => [x % M256 < P % M256]
  | _ => [False]
def rrgG : List (List At) → SV
  | [[.u P, .u A, .u B, .u _, .u _, .u _, .b _], [.u x]] => .one (sU (((x % M256 * ((x % M256 * (x % M256) % (P % M256) + A % M256) % (P % M256)) % (P % M256) + B % M256) % (P % M256))))
  | _ => .tup []
def cRrg : FSpec := specA [.str pCv, .str [.u]] rrgC rrgG
def isOnB (P A B x y : Nat) (f : Bool) : Bool := if f then x % M256 == 0 && y % M256 == 0 else decide (x % M256 < P % M256) && (decide (y % M256 < P % M256) && (y % M256 * (y % M256) % (P % M256) == ((x % M256 * ((x % M256 * (x % M256) % (P % M256) + A % M256) % (P % M256)) % (P % M256) + B % M256) % (P % M256))))
def isOnG : List (List At) → SV
  | [[.u P, .u A, .u B, .u _, .u _, .u _, .b _], [.u x, .u y, .b f]] => .one (sB (isOnB P A B x y f))
  | _ => .tup []
def isOC : List (List At) → List Prop
  | [[.u _, .u _, .u _, .u _, .u _, .u _, .b _], [.u _, .u _, .b _]] => []
  | _ => [False]
def cIsOn : FSpec := specA [.str pCv, .str pPt] isOC isOnG
def isZG (a : Nat) : SV := .one (sB (a % M256 == 0))
def cxRrg : Cx := [(21, specUUU proC proG), (20, specUUU modC totG)]
def cxIsOn : Cx := [(24, specU isZG), (19, specUU ordG), (21, specUUU proC proG), (41, cRrg)]
def cxRCF : Cx := [(24, specU isZG), (19, specUU ordG), (21, specUUU proC proG), (20, specUUU modC totG), (22, specWU rbyC rbyG), (23, specUUU rpoC rpoG), (25, cIsOn)]
theorem vc_refBy (n : Int) (m : Nat) :
    OwesV Try.prog .none slRest [] 4 Try.f22 [sI .u64 n, sU m] (rbyG n m) =
    (let x1 : Nat := m % M256; 2 ≤ 2 ∧ ∀ (_ : Go.Addr), (∀ (_ : Nat), True) ∧ (dgs 2 fun (i : Nat) => intsC (SC.val (Go.Value.int (Go.IntKind.u64, n.tmod (4294967296 : Int)).fst (selG [SK.c (SC.val (Go.Value.int Go.IntKind.u64 (n.tmod (4294967296 : Int)))), SK.c (SC.val (Go.Value.int Go.IntKind.u64 (Go.IntKind.u64.wrap (n.tdiv (4294967296 : Int)))))] i)))) ∧ 2 ≤ 1000 ∧ x1 ≠ 0 ∧ (vn 2 fun (i : Nat) => (intsL [SK.c (SC.val (Go.Value.int Go.IntKind.u64 (n.tmod (4294967296 : Int)))), SK.c (SC.val (Go.Value.int Go.IntKind.u64 (Go.IntKind.u64.wrap (n.tdiv (4294967296 : Int)))))]).getD i (0 : Int)) % x1 % M256 = n.toNat % x1 % M256 ∧ True) := by kernel_rfl
theorem vc_refIsZ (a : Nat) :
    Owes Try.prog .none [] 10 Try.f24 [sU a] (isZG a) =
    (let x1 : Bool := a % M256 == 0; conj [x1] = x1) := by kernel_rfl
theorem vc_refRgt (P A B N X Y x : Nat) (F : Bool) :
    Owes Try.prog cxRrg [] 10 Try.f41 [sCv P A B N X Y F, sU x] (rrgG [[.u P, .u A, .u B, .u N, .u X, .u Y, .b F], [.u x]]) =
    (let x1 : Nat := P % M256; let x2 : Nat := x % M256; let x3 : Nat := x2 * x2 % x1; let x4 : Nat := A % M256; let x5 : Nat := (x3 % M256 + x4) % x1 % M256; let x6 : Nat := B % M256; x1 ≠ 0 ∧ x2 < x1 ∧ x2 < x1 ∧ x1 ≠ 0 ∧ x1 ≠ 0 ∧ x2 < x1 ∧ x5 < x1 ∧ x1 ≠ 0 ∧ (x2 * x5 % x1 % M256 + x6) % x1 % M256 = (x2 * ((x3 + x4) % x1) % x1 + x6) % x1 % M256 ∧ True) := by kernel_rfl
theorem vc_refIsOn (P A B N X Y x y : Nat) (F f : Bool) :
    Owes Try.prog cxIsOn [] 10 Try.f25 [sCv P A B N X Y F, sPt x y f] (isOnG [[.u P, .u A, .u B, .u N, .u X, .u Y, .b F], [.u x, .u y, .b f]]) =
    (let x1 : Nat := x % M256; let x2 : Bool := x1 == 0; let x3 : Nat := y % M256; let x4 : Nat := P % M256; let x5 : Int := cmpI x1 x4; let x6 : Bool := Decidable.decide (x5 < (0 : Int)); let x7 : Int := cmpI x3 x4; let x8 : Bool := x6 && Decidable.decide (x7 < (0 : Int)); (f = Bool.true → (x2 = Bool.true → x2 = Bool.true) ∧ (x2 = Bool.true → x2 = Bool.true) ∧ (x2 = Bool.true → x2 = Bool.true) ∧ (x2 && x3 == 0) = isOnB P A B x y f) ∧ (f = Bool.false → (x6 = Bool.true → x6 = Bool.true) ∧ (x6 = Bool.true → x6 = Bool.true) ∧ (x6 = Bool.true → x6 = Bool.true) ∧ (x6 = Bool.true → x6 = Bool.true) ∧ (x6 = Bool.true → x6 = Bool.true) ∧ (x6 = Bool.true → x6 = Bool.true) ∧ (x8 = Bool.true → x8 = Bool.true) ∧ (x8 = Bool.true → x8 = Bool.true) ∧ (x8 = Bool.true → x8 = Bool.true) ∧ (x8 = Bool.true → x8 = Bool.true) ∧ (x8 = Bool.true → x8 = Bool.true) ∧ (x8 = Bool.true → x8 = Bool.true) ∧ (x8 = Bool.true → x4 ≠ 0) ∧ (x8 = Bool.true → x3 < x4) ∧ (x8 = Bool.true → x3 < x4) ∧ (x8 = Bool.true → x8 = Bool.true) ∧ (x8 = Bool.true → x8 = Bool.true) ∧ (x8 = Bool.true → x8 = Bool.true) ∧ (x8 = Bool.true → x1 < x4) ∧ (x8 = Bool.true → x8 = Bool.true) ∧ (x8 = Bool.true → x8 = Bool.true) ∧ (x8 = Bool.true → x8 = Bool.true) ∧ (x8 && conj [x3 * x3 % x4 % M256 == (x1 * ((x1 * x1 % x4 + A % M256) % x4) % x4 + B % M256) % x4 % M256]) = isOnB P A B x y f)) := by kernel_rfl
theorem vc_refCF (P A B N X Y : Nat) (F : Bool) (e : Int) :
    Owes Try.prog cxRCF [] 10 Try.f9 [sCv P A B N X Y F] (.one (sI .i64 e)) =
    (let x1 : Nat := P % M256; let x2 : Int := cmpI x1 3; let x3 : Bool := Decidable.decide (x2 > (0 : Int)); let x4 : Bool := x3 && Go.IntKind.u64.wrap (↑(BitVec.ofInt 64 (limb P 0) &&& BitVec.ofInt 64 (3 : Int)).toNat : Int) == (3 : Int); let x5 : Nat := A % M256; let x6 : Int := cmpI x5 x1; let x7 : Bool := x4 && Decidable.decide (x6 < (0 : Int)); let x8 : Nat := B % M256; let x9 : Int := cmpI x8 x1; let x10 : Bool := x7 && Decidable.decide (x9 < (0 : Int)); let x11 : Int := cmpI (N % M256) 1; let x12 : Nat := 4 % x1 % M256; let x13 : Nat := x5 ^ 3 % x1 % M256; let x14 : Nat := 27 % x1 % M256; let x15 : Nat := x8 ^ 2 % x1 % M256; let x16 : Bool := (x12 * x13 % x1 % M256 + x14 * x15 % x1 % M256) % x1 % M256 == 0; let x17 : Bool := x16 || F; (x3 = Bool.true → x3 = Bool.true) ∧ (x3 = Bool.true → x3 = Bool.true) ∧ (x3 = Bool.true → x3 = Bool.true) ∧ (x3 = Bool.true → x3 = Bool.true) ∧ (x3 = Bool.true → x3 = Bool.true) ∧ (x4 = Bool.true → x4 = Bool.true) ∧ (x4 = Bool.true → x4 = Bool.true) ∧ (x4 = Bool.true → x4 = Bool.true) ∧ (x4 = Bool.true → x4 = Bool.true) ∧ (x4 = Bool.true → x4 = Bool.true) ∧ (x4 = Bool.true → x4 = Bool.true) ∧ (x7 = Bool.true → x7 = Bool.true) ∧ (x7 = Bool.true → x7 = Bool.true) ∧ (x7 = Bool.true → x7 = Bool.true) ∧ (x7 = Bool.true → x7 = Bool.true) ∧ (x7 = Bool.true → x7 = Bool.true) ∧ (x7 = Bool.true → x7 = Bool.true) ∧ (x10 = Bool.true → x10 = Bool.true) ∧ (x10 = Bool.true → x10 = Bool.true) ∧ (x10 = Bool.true → x10 = Bool.true) ∧ (x10 = Bool.true → x10 = Bool.true) ∧ (x10 = Bool.true → x10 = Bool.true) ∧ ((!(x10 && Decidable.decide (x11 > (0 : Int)))) = Bool.true → (16 : Int) = e) ∧ ((!(x10 && Decidable.decide (x11 > (0 : Int)))) = Bool.false → ((0 : Int) ≤ (4 : Int) ∧ (4 : Int) < (18446744073709551616 : Int)) ∧ x1 ≠ 0 ∧ x1 ≠ 0 ∧ x5 < x1 ∧ x1 ≠ 0 ∧ x12 < x1 ∧ x13 < x1 ∧ ((0 : Int) ≤ (27 : Int) ∧ (27 : Int) < (18446744073709551616 : Int)) ∧ x1 ≠ 0 ∧ x1 ≠ 0 ∧ x8 < x1 ∧ x1 ≠ 0 ∧ x14 < x1 ∧ x15 < x1 ∧ x1 ≠ 0 ∧ ((!x16) = Bool.true → (!x16) = Bool.true) ∧ ((!x16) = Bool.true → (!x16) = Bool.true) ∧ (x16 = Bool.false → (!x16) = Bool.true) ∧ ((!x17) = Bool.true → (!x17) = Bool.true) ∧ ((!x17) = Bool.true → (!x17) = Bool.true) ∧ ((!x17) = Bool.true → (!x17) = Bool.true) ∧ ((!x17) = Bool.true → (!x17) = Bool.true) ∧ (x17 = Bool.false → (!x17) = Bool.true) ∧ ((x17 || !isOnB P A B X Y F) = Bool.true → (16 : Int) = e) ∧ ((x17 || !isOnB P A B X Y F) = Bool.false → (0 : Int) = e))) := by kernel_rfl
end Go.Proofs.Ytjokmekclibpmaa
end

section
namespace Go.Proofs.Ytjokmekclibpmaa
open Go Go.Sx Go.RowKit
set_option maxRecDepth 100000
end Go.Proofs.Ytjokmekclibpmaa
end

section
namespace Go.Proofs.Ytjokmekclibpmaa
open Go Go.Sx Go.RowKit
end Go.Proofs.Ytjokmekclibpmaa
end

section
namespace Go.Proofs.Ytjokmekclibpmaa
open Go Go.Sx Go.RowKit
end Go.Proofs.Ytjokmekclibpmaa
end

section
namespace Go.Proofs.Ytjokmekclibpmaa
open Go Go.Sx Go.RowKit
set_option maxRecDepth 100000
end Go.Proofs.Ytjokmekclibpmaa
end

section
namespace Go.Proofs.Ytjokmekclibpmaa
open Go Go.Sx Go.RowKit
end Go.Proofs.Ytjokmekclibpmaa
end

section
namespace Go.Proofs.Ytjokmekclibpmaa
open Go Go.Sx Go.RowKit
set_option maxRecDepth 100000
def cRCF : FSpec := specA [.str pCv] ckC ckG
end Go.Proofs.Ytjokmekclibpmaa
end

section
namespace Go.Proofs.Ytjokmekclibpmaa
open Go.Sx
def rB (a m : Nat) : Bool := decide (a % M256 < m % M256)
theorem rB_iff {a m : Nat} : rB a m = true ↔ a % M256 < m % M256 := decide_eq_true_iff
theorem nt_nt (a b : Bool) (n : Int) : nt a (nt b n) = nt (b && a) n := by cases a <;> cases b <;> rfl
theorem okF_b (a b m : Nat) : okF a b m = (rB a m && rB b m) := by
  unfold okF fE rB
  by_cases h0 : m % M256 = 0
  · rw [if_pos h0, decide_eq_false (by omega)]
    rfl
  · rw [if_neg h0]
    by_cases h1 : a % M256 < m % M256
    · by_cases h2 : b % M256 < m % M256
      · rw [if_pos ⟨h1, h2⟩, decide_eq_true h1, decide_eq_true h2]; rfl
      · rw [if_neg (fun h => h2 h.2), decide_eq_true h1, decide_eq_false h2]; rfl
    · rw [if_neg (fun h => h1 h.1), decide_eq_false h1]; rfl
theorem fE_b {a b m : Nat} (h1 : rB a m = true) (h2 : rB b m = true) : fE a b m = 0 := fE_zero (rB_iff.1 h1) (rB_iff.1 h2)
theorem rB_pos {a m : Nat} (h : rB a m = true) : 0 < m % M256 := Nat.lt_of_le_of_lt (Nat.zero_le _) (rB_iff.1 h)
theorem mdM {m : Nat} (h : 0 < m % M256) (v : Nat) : v % (m % M256) % M256 = v % (m % M256) := mod_M (Nat.mod_lt v h)
theorem rB_mod {m : Nat} (h : 0 < m % M256) (v : Nat) : rB (v % (m % M256)) m = true := by rw [rB_iff, mdM h]; exact Nat.mod_lt v h
theorem rB_zero {m : Nat} (h : 0 < m % M256) : rB 0 m = true := by rw [rB_iff, Nat.zero_mod]; exact h
theorem rB_no {a m : Nat} (h : ¬ 0 < m % M256) : rB a m = false := by unfold rB; exact decide_eq_false (by omega)
theorem rB_hM {m : Nat} (h : 0 < m % M256) (a b : Nat) : rB (hMV m a b) m = true := by
  unfold hMV; split
  · exact rB_mod h _
  · exact rB_zero h
theorem rB_hA {m : Nat} (h : 0 < m % M256) (a b : Nat) : rB (hAV m a b) m = true := by
  unfold hAV; split
  · exact rB_mod h _
  · exact rB_zero h
theorem rB_h3 {m : Nat} (h : 0 < m % M256) (a : Nat) : rB (h3V m a) m = true := rB_hA h _ _
theorem hMV_of {a b m : Nat} (h1 : rB a m = true) (h2 : rB b m = true) : hMV m a b = a % M256 * (b % M256) % (m % M256) := if_pos (fE_b h1 h2)
theorem hAV_of {a b m : Nat} (h1 : rB a m = true) (h2 : rB b m = true) : hAV m a b = (a % M256 + b % M256) % (m % M256) := if_pos (fE_b h1 h2)
theorem hSV_of {a b m : Nat} (h1 : rB a m = true) (h2 : rB b m = true) : hSV m a b = (a % M256 + m % M256 - b % M256) % (m % M256) := if_pos (fE_b h1 h2)
theorem h3V_of {a m : Nat} (h1 : rB a m = true) : h3V m a = tw3 (m % M256) (a % M256) := by
  have hp := rB_pos h1
  unfold h3V tw3
  rw [hAV_of h1 (rB_hA hp _ _), hAV_of h1 h1, mdM hp]
theorem h3T_eq (m a : Nat) (n : Int) : h3T m a n = nt (rB a m) n := by
  unfold h3T
  by_cases hp : 0 < m % M256
  · simp only [nt_nt, okF_b, rB_hA hp]
    cases rB a m <;> rfl
  · simp only [nt_nt, okF_b, rB_no hp, Bool.false_and]
theorem rgtT_eq (m A B x : Nat) (n : Int) : rgtT m A B x n = nt (rB x m && (rB A m && rB B m)) n := by
  unfold rgtT
  by_cases hp : 0 < m % M256
  · simp only [nt_nt, okF_b, rB_hA hp, rB_hM hp]
    cases rB x m <;> cases rB A m <;> cases rB B m <;> rfl
  · simp only [nt_nt, okF_b, rB_no hp, Bool.false_and]
theorem rgtV_of {m A B x : Nat} (hx : rB x m = true) (hA : rB A m = true) (hB : rB B m = true) : rgtV m A B x = rhsN (m % M256) (A % M256) (B % M256) (x % M256) := by
  have hp := rB_pos hx
  unfold rgtV rhsN
  rw [hAV_of (rB_hA hp _ _) hB, hAV_of (rB_hM hp _ _) (rB_hM hp _ _), hMV_of hx (rB_hM hp _ _), hMV_of hx hx, hMV_of hA hx]
  simp only [mdM hp]
theorem slpT_eq (m A B : Nat) (n : Int) : slpT m A B n = nt (rB A m && rB B m) n := by
  unfold slpT
  by_cases hp : 0 < m % M256
  · simp only [h3T_eq, nt_nt, okF_b, rB_hA hp, rB_hM hp, rB_h3 hp]
    cases rB A m <;> cases rB B m <;> rfl
  · simp only [h3T_eq, nt_nt, okF_b, rB_no hp, Bool.false_and]
theorem slpV_of {m A B : Nat} (hA : rB A m = true) (hB : rB B m = true) : slpV m A B = slopesN (m % M256) (A % M256) (B % M256) := by
  have hp := rB_pos hA
  unfold slpV slopesN
  rw [hAV_of (rB_hA hp _ _) (rB_h3 hp _), hAV_of (rB_hA hp _ _) (rB_hA hp _ _), hAV_of (rB_hM hp _ _) (rB_hM hp _ _), hMV_of hA (rB_hM hp _ _), hMV_of hA hA, h3V_of (rB_h3 hp _), h3V_of (rB_h3 hp _), h3V_of (rB_hM hp _ _), hMV_of hB hB]
  unfold tw3
  simp only [mdM hp]
def haB (m A B x y : Nat) (f : Bool) : Bool := cond f (x % M256 == 0 && y % M256 == 0) (rB x m && (rB y m && (y % M256 * (y % M256) % (m % M256) == rhsN (m % M256) (A % M256) (B % M256) (x % M256))))
theorem havT_eq {m A B : Nat} (hA : rB A m = true) (hB : rB B m = true) (x y : Nat) (f : Bool) (n : Int) : havT m A B x y f n = nt (haB m A B x y f) n := by
  have hp := rB_pos hA
  unfold havT haB
  cases f with
  | true => rfl
  | false =>
    show nt _ (rgtT m A B x (nt (okF y y m) n)) = _
    rw [rgtT_eq, nt_nt, nt_nt, okF_b, hA, hB]
    cases hx : rB x m
    · cases rB y m <;> rfl
    · cases hy : rB y m
      · rfl
      · rw [hMV_of hy hy, rgtV_of hx hA hB, mdM hp, show rhsN (m % M256) (A % M256) (B % M256) (x % M256) % M256 = rhsN (m % M256) (A % M256) (B % M256) (x % M256) from mdM hp _]
        rfl
def gdB (P A B N X Y : Nat) (F : Bool) : Bool :=
  decide (3 < P % M256) && (decide (P % M256 % 4 = 3) && (rB A P && (rB B P && (decide (1 < N % M256) && (!(slopesN (P % M256) (A % M256) (B % M256) == 0) && (!F && haB P A B X Y F))))))
theorem havT_16 (m A B x y : Nat) (f : Bool) : havT m A B x y f 16 = 16 := by
  have h16 : ∀ b, nt b 16 = 16 := fun b => by cases b <;> rfl
  unfold havT
  rw [h16, h16, rgtT_eq, h16, h16]
  cases f <;> rfl
theorem ckE_eq (P A B N X Y : Nat) (F : Bool) : ckE P A B N X Y F = nt (gdB P A B N X Y F) 0 := by
  unfold ckE mbeT gdB
  rw [slpT_eq]
  cases hA : rB A P with
  | false =>
    simp only [nt_nt, Bool.false_and, Bool.and_false]
    exact havT_16 _ _ _ _ _ _
  | true => cases hB : rB B P with
    | false =>
      simp only [nt_nt, Bool.false_and, Bool.and_false]
      exact havT_16 _ _ _ _ _ _
    | true =>
      have hp := rB_pos hA
      rw [havT_eq hA hB, slpV_of hA hB, show slopesN (P % M256) (A % M256) (B % M256) % M256 = slopesN (P % M256) (A % M256) (B % M256) from mdM hp _]
      simp only [nt_nt]
      congr 1
      cases decide (3 < P % M256) <;> cases decide (P % M256 % 4 = 3) <;> cases decide (1 < N % M256) <;> cases (slopesN (P % M256) (A % M256) (B % M256) == 0) <;> cases F <;> simp
theorem gdB_A {P A B N X Y : Nat} {F : Bool} (h : gdB P A B N X Y F = true) : 3 < P % M256 ∧ P % M256 % 4 = 3 ∧ rB A P = true ∧ rB B P = true ∧ 1 < N % M256 ∧ haB P A B X Y F = true ∧ F = false := by
  unfold gdB at h
  simp only [Bool.and_eq_true, decide_eq_true_eq, Bool.not_eq_true'] at h
  exact ⟨h.1, h.2.1, h.2.2.1, h.2.2.2.1, h.2.2.2.2.1, h.2.2.2.2.2.2.2, h.2.2.2.2.2.2.1⟩
end Go.Proofs.Ytjokmekclibpmaa
end

section
namespace Go.Proofs.Ytjokmekclibpmaa
open Go.Sx
theorem conj_one (a : Bool) : conj [a] = a := by rw [conj_all]; simp
theorem bnd_pt (p : Pt) : (ptS p).bnd none0 := by
  intro k hk
  simp only [List.mem_cons, List.not_mem_nil, or_false] at hk
  rcases hk with rfl | rfl | rfl <;> trivial
theorem ok_Td (ls : List (List At)) (vs : List (Option Addr)) (hc : Ok (tdC ls)) : Owes Try.prog Cx.none [] 100 Try.f26 (mkArgs [.str pPt, .int .i64] ls vs) (tdG ls) := by
  unfold tdC at hc
  split at hc
  · rename_i x y f e
    show Owes Try.prog Cx.none [] 100 Try.f26 [sPt x y f, sI .i64 e] (.tup [sPt (tdV e (x, y, f)).1 (tdV e (x, y, f)).2.1 (tdV e (x, y, f)).2.2, sI .i64 e])
    rw [wc_told]
    refine ⟨fun h => ?_, fun h => ?_⟩
    · have h : e ≠ 0 := by simpa using h
      unfold tdV
      rw [if_neg h]
      exact ⟨⟨rfl, rfl, rfl, trivial⟩, rfl⟩
    · have h : e = 0 := by simpa using h
      subst h
      exact ⟨⟨rfl, rfl, rfl, trivial⟩, rfl⟩
  · exact hc.1.elim
theorem bnd_pte (p : Pt) (e : Int) : SV.bnd none0 (.tup [ptS p, sI .i64 e]) := bnd_two (bnd_pt p) (bnd_I _ _)
theorem wcard_told : FnOK Try.prog 26 cTd :=
  FnOK_A CxOK_nil (iv := fun _ => []) (N := 100) Try.func26 (by kernel_rfl) (by kernel_rfl) (fun ls => by unfold tdG; split; exact bnd_pte _ _; exact bnd_none) ok_Td
end Go.Proofs.Ytjokmekclibpmaa
end

section
namespace Go.Proofs.Ytjokmekclibpmaa
open Go Go.Sx Go.RowKit
theorem cmpI_lt' (a b : Nat) : decide (cmpI a b < 0) = decide (a < b) := by
  unfold cmpI
  split
  · rename_i h; rw [decide_eq_true h]; rfl
  · rename_i h
    rw [decide_eq_false h]
    split <;> rfl
theorem cmpI_gt' (a b : Nat) : decide (cmpI a b > 0) = decide (b < a) := by
  unfold cmpI
  split
  · rename_i h; rw [decide_eq_false (show ¬ b < a by omega)]; rfl
  · split
    · rename_i h; rw [decide_eq_true h]; rfl
    · rename_i h; rw [decide_eq_false h]; rfl
theorem limb_and (P : Nat) : (IntKind.u64.wrap ((BitVec.ofInt 64 (limb P 0) &&& BitVec.ofInt 64 3).toNat : Int) == (3 : Int)) = decide (P % M256 % 4 = 3) := by
  have e : limb P 0 = ((P / 2 ^ (64 * 0) % 2 ^ 64 : Nat) : Int) := rfl
  have e2 : (P / 2 ^ (64 * 0) % 2 ^ 64 : Nat) = P % 18446744073709551616 := by rw [Nat.mul_zero, Nat.pow_zero, Nat.div_one]
  have e3 : (BitVec.ofInt 64 ((P % 18446744073709551616 : Nat) : Int) &&& BitVec.ofInt 64 3).toNat = P % 18446744073709551616 % 4 := by
    rw [BitVec.toNat_and, BitVec.toNat_ofInt, BitVec.toNat_ofInt]
    have a : (((P % 18446744073709551616 : Nat) : Int) % ((2 ^ 64 : Nat) : Int)).toNat = P % 18446744073709551616 := by omega
    have b : ((3 : Int) % ((2 ^ 64 : Nat) : Int)).toNat = 2 ^ 2 - 1 := by decide
    rw [a, b, Nat.and_two_pow_sub_one_eq_mod]
  rw [e, e2, e3]
  have hM := M256_eq
  have w : IntKind.u64.wrap ((P % 18446744073709551616 % 4 : Nat) : Int) = ((P % 18446744073709551616 % 4 : Nat) : Int) := by
    rw [IntKind.wrap_u64]; omega
  rw [w, Bool.eq_iff_iff, beq_iff_eq, decide_eq_true_iff]
  have q : P % M256 % 4 = P % 18446744073709551616 % 4 := by rw [hM]; omega
  omega
theorem vn_two {g : Nat → Int} {n : Int} (h : 0 ≤ n ∧ n < 18446744073709551616) (h0 : g 0 = n % 4294967296) (h1 : g 1 = n / 4294967296) : vn 2 g = n.toNat ∧ dgs 2 g := by
  constructor
  · unfold vn
    simp only [vz, h0, h1]
    omega
  · refine ⟨fun i hi => ?_⟩
    rcases (show i = 0 ∨ i = 1 by omega) with rfl | rfl
    · rw [h0]; omega
    · rw [h1]; omega
theorem ok_refBy (n : Int) (m : Nat) (h : 0 ≤ n ∧ n < 18446744073709551616) (hm : m % M256 ≠ 0) : OwesV Try.prog .none slRest [] 4 Try.f22 [sI .u64 n, sU m] (rbyG n m) := by
  rw [vc_refBy]
  have e1 : n.tmod 4294967296 = n % 4294967296 := by rw [Int.tmod_eq_emod_of_nonneg h.1]
  have e2 : IntKind.u64.wrap (n.tdiv 4294967296) = n / 4294967296 := by
    rw [Int.tdiv_eq_ediv_of_nonneg h.1, IntKind.wrap_u64]; omega
  intro x1
  have hM := Nat.mod_lt m M_pos
  obtain ⟨v1, v2⟩ := vn_two (g := fun i => (intsL [SK.c (SC.val (.int .u64 (n.tmod 4294967296))), SK.c (SC.val (.int .u64 (IntKind.u64.wrap (n.tdiv 4294967296))))]).getD i 0) h e1 e2
  refine ⟨Nat.le_refl _, fun _ => ⟨fun _ => trivial, v2, by decide, hm, ?_, trivial⟩⟩
  have v1' : (vn 2 fun i => (intsL [SK.c (SC.val (.int .u64 (n.tmod 4294967296))), SK.c (SC.val (.int .u64 (IntKind.u64.wrap (n.tdiv 4294967296))))]).getD i 0) = n.toNat := v1
  rw [v1']
theorem FnOKV_WU {cx : Cx} {sl : List (Nat × SSpec)} {f : Nat} {fn : Func} (hcx : CxOK Try.prog cx) (hsl : ∀ p ∈ sl, FnOKs Try.prog cx.gl p.1 p.2) (hf : Try.prog.funcs[f]? = some fn) (hb : fn.body.isSome = true) (hn : (fn.name == "runtime.NumGoroutine") = false) {c : Int → Nat → List Prop} {g : Int → Nat → SV} {N : Nat} (hg : ∀ a b, (g a b).bnd none0)
    (h : ∀ a b, Ok (c a b) → OwesV Try.prog cx sl [] N fn [sI .u64 a, sU b] (g a b)) : FnOKg Try.prog cx.gl f (specWU c g) := by
  refine FnOK_owesV hcx hsl hf hb hn fun args ps sv hs hp => ?_
  unfold specWU at hs
  split at hs
  case h_2 => cases hs
  rename_i x y
  split at hs
  case h_2 => cases hs
  rename_i n p m hx hy
  simp only [Option.some.injEq, Prod.mk.injEq] at hs
  obtain ⟨rfl, rfl⟩ := hs
  obtain ⟨o1, o2⟩ := Ok.append.1 hp
  refine ⟨[], N, [sI .u64 n, sU m], fun ρ => by simp only [List.map_cons, List.map_nil, asI_canon hx ρ, asU_canon hy o1 ρ], fun fz _ z hz => ?_, hg n m, h n m o2⟩
  simp only [List.mem_cons, List.not_mem_nil, or_false] at hz
  rcases hz with rfl | rfl
  · exact trivial
  · exact bnd_Un _
theorem card_refBy : FnOK Try.prog 22 (specWU rbyC rbyG) :=
  FnOKV_WU cx_none sl_rest Try.func22 (by kernel_rfl) (by kernel_rfl) (fun _ _ => bnd_Un _) fun n m h => ok_refBy n m h.1 h.2.1
theorem card_refIsZ : FnOK Try.prog 24 (specU isZG) :=
  FnOK_U CxOK_nil (iv := []) (N := 10) Try.func24 (by kernel_rfl) (by kernel_rfl) (fun _ => bnd_one (bnd_B _)) fun a => by
    show Owes _ _ _ _ _ _ (isZG a)
    rw [vc_refIsZ]
    exact conj_one _
theorem ok_refRgt (ls : List (List At)) (vs : List (Option Addr)) (hc : Ok (rrgC ls)) : Owes Try.prog cxRrg [] 10 Try.f41 (mkArgs [.str pCv, .str [.u]] ls vs) (rrgG ls) := by
  unfold rrgC at hc
  split at hc
  · rename_i P A B N X Y F x
    show Owes Try.prog cxRrg [] 10 Try.f41 [sCv P A B N X Y F, sU x] (rrgG [[.u P, .u A, .u B, .u N, .u X, .u Y, .b F], [.u x]])
    rw [vc_refRgt]
    have h : x % M256 < P % M256 := hc.1
    have hp : 0 < P % M256 := Nat.lt_of_le_of_lt (Nat.zero_le _) h
    have lt := fun v => Nat.mod_lt v hp
    have md := mdM hp
    intro x1 x2 x3 x4 x5 x6
    have e3 : x3 % M256 = x3 := md _
    have e5 : x5 = (x3 + x4) % x1 := by show (x3 % M256 + x4) % x1 % M256 = _; rw [e3]; exact md _
    have e6 : x2 * x5 % x1 % M256 = x2 * x5 % x1 := md _
    refine ⟨by show P % M256 ≠ 0; omega, h, h, by show P % M256 ≠ 0; omega, by show P % M256 ≠ 0; omega, h, by rw [e5]; exact lt _, by show P % M256 ≠ 0; omega, ?_, trivial⟩
    rw [e6, e5]
  · exact hc.1.elim
theorem card_refRgt : FnOK Try.prog 41 cRrg :=
  FnOK_A (CxOK_cons card_refPro (CxOK_cons card_refTot CxOK_nil)) (iv := fun _ => []) (N := 10) Try.func41 (by kernel_rfl) (by kernel_rfl) (fun ls => by unfold rrgG; split; exact bnd_one (bnd_U _); exact bnd_none) ok_refRgt
theorem ok_refIsOn (ls : List (List At)) (vs : List (Option Addr)) (hc : Ok (isOC ls)) : Owes Try.prog cxIsOn [] 10 Try.f25 (mkArgs [.str pCv, .str pPt] ls vs) (isOnG ls) := by
  unfold isOC at hc
  split at hc
  · rename_i P A B N X Y F x y f
    show Owes Try.prog cxIsOn [] 10 Try.f25 [sCv P A B N X Y F, sPt x y f] (isOnG [[.u P, .u A, .u B, .u N, .u X, .u Y, .b F], [.u x, .u y, .b f]])
    rw [vc_refIsOn]
    intro x1 x2 x3 x4 x5 x6 x7 x8
    have e6 : x6 = decide (x1 < x4) := cmpI_lt' _ _
    have e8 : x8 = (decide (x1 < x4) && decide (x3 < x4)) := by
      show (x6 && decide (x7 < 0)) = _
      rw [e6, show decide (x7 < 0) = decide (x3 < x4) from cmpI_lt' _ _]
    have h8 : x8 = true → x1 < x4 ∧ x3 < x4 := fun h => by
      rw [e8, Bool.and_eq_true, decide_eq_true_eq, decide_eq_true_eq] at h; exact h
    refine ⟨fun h => ⟨id, id, id, ?_⟩, fun h => ⟨id, id, id, id, id, id, id, id, id, id, id, id, fun k => ?_, fun k => (h8 k).2, fun k => (h8 k).2, id, id, id, fun k => (h8 k).1, id, id, id, ?_⟩⟩
    · subst h; rfl
    · have := (h8 k).1; omega
    · subst h
      rw [e8, conj_one]
      show _ = (decide (x1 < x4) && (decide (x3 < x4) && (x3 * x3 % x4 == (x1 * ((x1 * x1 % x4 + A % M256) % x4) % x4 + B % M256) % x4)))
      cases h1 : decide (x1 < x4)
      · rfl
      · cases h3 : decide (x3 < x4)
        · rfl
        · have hp : 0 < P % M256 := Nat.lt_of_le_of_lt (Nat.zero_le _) (of_decide_eq_true h1)
          have m1 : x3 * x3 % x4 % M256 = x3 * x3 % x4 := mdM hp _
          have m2 : ∀ v, v % x4 % M256 = v % x4 := mdM hp
          rw [m1, m2]
          simp
  · exact hc.1.elim
theorem card_refIsOn : FnOK Try.prog 25 cIsOn :=
  FnOK_A (CxOK_cons card_refIsZ (CxOK_cons card_refOrd (CxOK_cons card_refPro (CxOK_cons card_refRgt CxOK_nil)))) (iv := fun _ => []) (N := 10) Try.func25 (by kernel_rfl) (by kernel_rfl) (fun ls => by unfold isOnG; split; exact bnd_one (bnd_B _); exact bnd_none) ok_refIsOn
theorem isOn_ha {P A B x y : Nat} {f : Bool} (hA : rB A P = true) : isOnB P A B x y f = haB P A B x y f := by
  unfold isOnB haB rB
  cases f with
  | true => rfl
  | false =>
    have e : (x % M256 * ((x % M256 * (x % M256) % (P % M256) + A % M256) % (P % M256)) % (P % M256) + B % M256) % (P % M256) = rhsN (P % M256) (A % M256) (B % M256) (x % M256) := by
      unfold rhsN
      generalize x % M256 = x'
      generalize A % M256 = A'
      generalize B % M256 = B'
      generalize P % M256 = P'
      simp only [Nat.add_mod_mod, Nat.mod_add_mod, Nat.mul_mod_mod, Nat.mod_mul_mod]
      rw [Nat.mul_add, Nat.mul_comm x' A']
    rw [e]
    rfl
theorem slopes_ref (A B P : Nat) : (4 % P * (A ^ 3 % P) % P + 27 % P * (B ^ 2 % P) % P) % P = slopesN P A B := by
  unfold slopesN tw3
  simp only [Nat.add_mod_mod, Nat.mod_add_mod, Nat.mul_mod_mod, Nat.mod_mul_mod]
  rw [show A ^ 3 = A * (A * A) by rw [Nat.pow_succ, Nat.pow_two, Nat.mul_assoc, Nat.mul_comm], Nat.pow_two]
  generalize A * (A * A) = a
  generalize B * B = b
  congr 1
  omega
theorem ok_refCF (ls : List (List At)) (vs : List (Option Addr)) (hc : Ok (ckC ls)) : Owes Try.prog cxRCF [] 10 Try.f9 (mkArgs [.str pCv] ls vs) (ckG ls) := by
  unfold ckC at hc
  split at hc
  · rename_i P A B N X Y F
    show Owes Try.prog cxRCF [] 10 Try.f9 [sCv P A B N X Y F] (.one (sI .i64 (ckE P A B N X Y F)))
    rw [vc_refCF]
    intro x1 x2 x3 x4 x5 x6 x7 x8 x9 x10 x11 x12 x13 x14 x15 x16 x17
    have e3 : x3 = decide (3 < x1) := cmpI_gt' _ _
    have e4 : x4 = (decide (3 < x1) && decide (P % M256 % 4 = 3)) := by show (x3 && _) = _; rw [e3, limb_and]
    have e7 : x7 = (x4 && rB A P) := by show (x4 && decide (x6 < 0)) = _; rw [show decide (x6 < 0) = decide (x5 < x1) from cmpI_lt' _ _]; rfl
    have e10 : x10 = (x7 && rB B P) := by show (x7 && decide (x9 < 0)) = _; rw [show decide (x9 < 0) = decide (x8 < x1) from cmpI_lt' _ _]; rfl
    have e11 : decide (x11 > 0) = decide (1 < N % M256) := cmpI_gt' _ _
    rw [ckE_eq]
    refine ⟨id, id, id, id, id, id, id, id, id, id, id, id, id, id, id, id, id, id, id, id, id, id, fun h => ?_, fun h => ?_⟩
    · have g : gdB P A B N X Y F = false := by
        rw [e11, e10, e7, e4] at h
        unfold gdB
        cases ha : decide (3 < P % M256) <;> cases hb : decide (P % M256 % 4 = 3) <;> cases hA : rB A P <;> cases hB : rB B P <;> cases hN : decide (1 < N % M256) <;> first | rfl | (rw [show decide (3 < x1) = true from ha, hb, hA, hB, hN] at h; cases h)
      rw [g]; rfl
    · have h : (x10 && decide (x11 > 0)) = true := by simpa using h
      rw [e11, e10, e7, e4] at h
      simp only [Bool.and_eq_true] at h
      obtain ⟨⟨⟨⟨ha, hb⟩, hA⟩, hB⟩, hN⟩ := h
      have hp := rB_pos hA
      have md : ∀ v, v % x1 % M256 = v % x1 := mdM hp
      have lt := fun v => Nat.mod_lt v hp
      have n0 : x1 ≠ 0 := by show P % M256 ≠ 0; omega
      have e16 : x16 = (slopesN (P % M256) (A % M256) (B % M256) == 0) := by
        show ((x12 * x13 % x1 % M256 + x14 * x15 % x1 % M256) % x1 % M256 == 0) = _
        rw [md, md, md, show x12 = 4 % x1 from md _, show x13 = x5 ^ 3 % x1 from md _, show x14 = 27 % x1 from md _, show x15 = x8 ^ 2 % x1 from md _, slopes_ref]
      have g : gdB P A B N X Y F = (!(x17 || !isOnB P A B X Y F)) := by
        unfold gdB
        rw [show decide (3 < P % M256) = true from ha, hb, hA, hB, hN, isOn_ha hA]
        show _ = !((x16 || F) || _)
        rw [e16]
        cases (slopesN (P % M256) (A % M256) (B % M256) == 0) <;> cases F <;> cases haB P A B X Y _ <;> rfl
      rw [g]
      refine ⟨⟨by decide, by decide⟩, n0, n0, rB_iff.1 hA, n0, by rw [show x12 = 4 % x1 from md _]; exact lt _, by rw [show x13 = x5 ^ 3 % x1 from md _]; exact lt _, ⟨by decide, by decide⟩, n0, n0, rB_iff.1 hB, n0, by rw [show x14 = 27 % x1 from md _]; exact lt _, by rw [show x15 = x8 ^ 2 % x1 from md _]; exact lt _, n0, id, id, fun k => by rw [k]; rfl, id, id, id, id, fun k => by rw [k]; rfl, fun k => ?_, fun k => ?_⟩
      · rw [k]; rfl
      · rw [k]; rfl
  · exact hc.1.elim
theorem card_refCF : FnOK Try.prog 9 cRCF :=
  FnOK_A (cx := cxRCF) (CxOK_cons card_refIsZ (CxOK_cons card_refOrd (CxOK_cons card_refPro (CxOK_cons card_refTot (CxOK_cons card_refBy (CxOK_cons card_refPower (CxOK_cons card_refIsOn CxOK_nil))))))) (iv := fun _ => []) (N := 10) Try.func9 (by kernel_rfl) (by kernel_rfl) (fun ls => by unfold ckG; split; exact bnd_one (bnd_I _ _); exact bnd_none) ok_refCF
theorem ck_ne (P A B N X Y : Nat) (F : Bool) : (ckE P A B N X Y F != 0) = !gdB P A B N X Y F := by
  rw [ckE_eq]; cases gdB P A B N X Y F <;> rfl
end Go.Proofs.Ytjokmekclibpmaa
end

section
namespace Go.Proofs.Ytjokmekclibpmaa
open Go Go.Sx Go.RowKit
def opp (m b : Nat) : Nat := if b = 0 then 0 else m - b
theorem add_case {a b m : Nat} (ha : a < m) (hb : b < m) : (a + b) % m = if a + b < m then a + b else a + b - m := by
  split
  · rename_i h; exact Nat.mod_eq_of_lt h
  · rw [Nat.mod_eq_sub_mod (by omega), Nat.mod_eq_of_lt (by omega)]
theorem sub_case {a b m : Nat} (ha : a < m) (hb : b < m) : (a + m - b) % m = if b ≤ a then a - b else a + m - b := by
  split
  · rw [show a + m - b = (a - b) + m by omega, Nat.add_mod_right, Nat.mod_eq_of_lt (by omega)]
  · exact Nat.mod_eq_of_lt (by omega)
theorem opp_sub {a b m : Nat} (ha : a < m) (hb : b < m) : (a + opp m b) % m = (a + m - b) % m := by
  rw [sub_case ha hb]
  unfold opp
  split
  · rw [Nat.add_zero, Nat.mod_eq_of_lt ha, if_pos (by omega), show b = 0 by assumption, Nat.sub_zero]
  · rw [add_case ha (by omega)]
    split <;> split <;> omega
theorem opp_le {m b : Nat} (h : b < m) : opp m b < m := by unfold opp; split <;> omega
end Go.Proofs.Ytjokmekclibpmaa
end

section
namespace Go.Proofs.Ytjokmekclibpmaa
open Go Go.Sx Go.RowKit
end Go.Proofs.Ytjokmekclibpmaa
end
