/-
  Texts: V63, P105, P106, P107, V64, P108, V65, P109, V66, P110, V72.
-/
import Derived.Test.YteimeidpcgebkaaM1
import Derived.Test.YteimeidpcgebkaaM2
import Derived.Test.YteimeidpcgebkaaM3
import Derived.Test.YteimeidpcgebkaaM4
import Derived.Test.YteimeidpcgebkaaM5
import Derived.Test.YteimeidpcgebkaaM6
import Derived.Test.YteimeidpcgebkaaM7
import Derived.Test.YteimeidpcgebkaaM8
import Derived.Test.YteimeidpcgebkaaM9
import Derived.Test.YteimeidpcgebkaaM10
import Derived.Test.YteimeidpcgebkaaM11
import Derived.Test.YteimeidpcgebkaaM12
import Derived.Test.YteimeidpcgebkaaM13
section
namespace Go.Proofs.Yteimeidpcgebkaa
open Go Go.Sx Go.RowKit
set_option maxRecDepth 100000
def restUC (n : Nat) (f : Nat → Int) (m : Nat) : List Prop := [dgs n f, n ≤ 1000, m % M256 ≠ 0]
def restUR (n : Nat) (f : Nat → Int) (m : Nat) : List RS := [.v (sU (vn n f % (m % M256)))]
def slRest : List (Nat × SSpec) := (53, specDU restUC restUR) :: slAll
def modC (_ _ m : Nat) : List Prop := [m % M256 ≠ 0]
def totG (a b m : Nat) : SV := .one (sU ((a % M256 + b % M256) % (m % M256)))
def proC (a b m : Nat) : List Prop := [m % M256 ≠ 0, a % M256 < m % M256, b % M256 < m % M256]
def proG (a b m : Nat) : SV := .one (sU (a % M256 * (b % M256) % (m % M256)))
def oppC (a m : Nat) : List Prop := [a % M256 ≤ m % M256]
def oppG (a m : Nat) : SV := .one (sU (if a % M256 = 0 then 0 else m % M256 - a % M256))
def ordG (a b : Nat) : SV := .one (sI .i64 (cmpI (a % M256) (b % M256)))
theorem vc_refQuo (a b : Nat) (r : SV) (q s : Nat) (e : Int) :
  OwesV Try.prog .none slAll [] 4 Try.f32 [sU a, sU b] (.tup [sU q, sU s, sI .i64 e]) =
  (let x1 : Nat := b % M256; let x2 : Nat := q % M256; let x3 : Nat := s % M256; let x4 : Nat := vn 8 fun (i : Nat) => dg x1 i; let x5 : Nat := vn 8 fun (i : Nat) => dg (a % M256) i; let x6 : Nat := remL x5 x4 8; let x7 : Nat := vn 8 fun (i : Nat) => intsC (SC.val (Go.Value.int Go.IntKind.u64 (dg (a % M256) i))); let x8 : Nat := vn 8 fun (i : Nat) => intsC (SC.val (Go.Value.int Go.IntKind.u64 (dg x1 i))); (conj [x1 == 0] = Bool.true → (0 = x2 ∧ True) ∧ (0 = x3 ∧ True) ∧ (7 : Int) = e) ∧ (conj [x1 == 0] = Bool.false → ((∀ (a_2 : Option Go.Addr) (cap : Nat), (a_2 = Option.none → 8 = 0 ∧ cap = 0) → 8 ≤ cap → ∀ (a_5 : Option Go.Addr) (cap : Nat), (a_5 = Option.none → 8 = 0 ∧ cap = 0) → 8 ≤ cap → (∀ (_ : Nat), True) ∧ (∀ (_ : Nat), True) ∧ (dgs 8 fun (i : Nat) => intsC (SC.val (Go.Value.int Go.IntKind.u64 (dg (a % M256) i)))) ∧ 8 ≤ 1000 ∧ (dgs 8 fun (i : Nat) => intsC (SC.val (Go.Value.int Go.IntKind.u64 (dg x1 i)))) ∧ 8 ≤ 900 ∧ x4 ≠ 0 ∧ ∀ (a : Option Go.Addr) (cap : Nat), (a = Option.none → 8 = 0 ∧ cap = 0) → 8 ≤ cap → ∀ (a : Option Go.Addr) (cap : Nat), (a = Option.none → x6 = 0 ∧ cap = 0) → x6 ≤ cap → ((∀ (_ : Nat), True) ∧ (dgs 8 fun (i : Nat) => intsC (SC.val (Go.Value.int Go.IntKind.u64 (dg (x7 / x8) i)))) ∧ 8 ≤ 1000 ∧ (∀ (_ : Nat), True) ∧ (dgs (remL x7 x8 8) fun (i : Nat) => intsC (SC.val (Go.Value.int Go.IntKind.u64 (dg (x7 % x8) i)))) ∧ x6 ≤ 1000 ∧ ((vn 8 fun (i : Nat) => dg (x5 / x4) i) % M256 % M256 = x2 ∧ True) ∧ ((vn x6 fun (i : Nat) => dg (x5 % x4) i) % M256 % M256 = x3 ∧ True) ∧ (0 : Int) = e) ∧ (∀ (_ : Nat), True) ∧ (dgs 8 fun (i : Nat) => intsC (SC.val (Go.Value.int Go.IntKind.u64 (dg (x7 / x8) i)))) ∧ 8 ≤ 1000 ∧ (∀ (_ : Nat), True) ∧ (dgs (remL x7 x8 8) fun (i : Nat) => intsC (SC.val (Go.Value.int Go.IntKind.u64 (dg (x7 % x8) i)))) ∧ x6 ≤ 1000 ∧ ((vn 8 fun (i : Nat) => dg (x5 / x4) i) % M256 % M256 = x2 ∧ True) ∧ ((vn x6 fun (i : Nat) => dg (x5 % x4) i) % M256 % M256 = x3 ∧ True) ∧ (0 : Int) = e) ∧ ∀ (a_2 : Option Go.Addr) (cap : Nat), (a_2 = Option.none → 8 = 0 ∧ cap = 0) → 8 ≤ cap → ∀ (a_5 : Option Go.Addr) (cap : Nat), (a_5 = Option.none → 8 = 0 ∧ cap = 0) → 8 ≤ cap → (∀ (_ : Nat), True) ∧ (∀ (_ : Nat), True) ∧ (dgs 8 fun (i : Nat) => intsC (SC.val (Go.Value.int Go.IntKind.u64 (dg (a % M256) i)))) ∧ 8 ≤ 1000 ∧ (dgs 8 fun (i : Nat) => intsC (SC.val (Go.Value.int Go.IntKind.u64 (dg x1 i)))) ∧ 8 ≤ 900 ∧ x4 ≠ 0 ∧ ∀ (a : Option Go.Addr) (cap : Nat), (a = Option.none → 8 = 0 ∧ cap = 0) → 8 ≤ cap → ∀ (a : Option Go.Addr) (cap : Nat), (a = Option.none → x6 = 0 ∧ cap = 0) → x6 ≤ cap → ((∀ (_ : Nat), True) ∧ (dgs 8 fun (i : Nat) => intsC (SC.val (Go.Value.int Go.IntKind.u64 (dg (x7 / x8) i)))) ∧ 8 ≤ 1000 ∧ (∀ (_ : Nat), True) ∧ (dgs (remL x7 x8 8) fun (i : Nat) => intsC (SC.val (Go.Value.int Go.IntKind.u64 (dg (x7 % x8) i)))) ∧ x6 ≤ 1000 ∧ ((vn 8 fun (i : Nat) => dg (x5 / x4) i) % M256 % M256 = x2 ∧ True) ∧ ((vn x6 fun (i : Nat) => dg (x5 % x4) i) % M256 % M256 = x3 ∧ True) ∧ (0 : Int) = e) ∧ (∀ (_ : Nat), True) ∧ (dgs 8 fun (i : Nat) => intsC (SC.val (Go.Value.int Go.IntKind.u64 (dg (x7 / x8) i)))) ∧ 8 ≤ 1000 ∧ (∀ (_ : Nat), True) ∧ (dgs (remL x7 x8 8) fun (i : Nat) => intsC (SC.val (Go.Value.int Go.IntKind.u64 (dg (x7 % x8) i)))) ∧ x6 ≤ 1000 ∧ ((vn 8 fun (i : Nat) => dg (x5 / x4) i) % M256 % M256 = x2 ∧ True) ∧ ((vn x6 fun (i : Nat) => dg (x5 % x4) i) % M256 % M256 = x3 ∧ True) ∧ (0 : Int) = e) ∧ ∀ (a_2 : Option Go.Addr) (cap : Nat), (a_2 = Option.none → 8 = 0 ∧ cap = 0) → 8 ≤ cap → ∀ (a_5 : Option Go.Addr) (cap : Nat), (a_5 = Option.none → 8 = 0 ∧ cap = 0) → 8 ≤ cap → (∀ (_ : Nat), True) ∧ (∀ (_ : Nat), True) ∧ (dgs 8 fun (i : Nat) => intsC (SC.val (Go.Value.int Go.IntKind.u64 (dg (a % M256) i)))) ∧ 8 ≤ 1000 ∧ (dgs 8 fun (i : Nat) => intsC (SC.val (Go.Value.int Go.IntKind.u64 (dg x1 i)))) ∧ 8 ≤ 900 ∧ x4 ≠ 0 ∧ ∀ (a : Option Go.Addr) (cap : Nat), (a = Option.none → 8 = 0 ∧ cap = 0) → 8 ≤ cap → ∀ (a : Option Go.Addr) (cap : Nat), (a = Option.none → x6 = 0 ∧ cap = 0) → x6 ≤ cap → ((∀ (_ : Nat), True) ∧ (dgs 8 fun (i : Nat) => intsC (SC.val (Go.Value.int Go.IntKind.u64 (dg (x7 / x8) i)))) ∧ 8 ≤ 1000 ∧ (∀ (_ : Nat), True) ∧ (dgs (remL x7 x8 8) fun (i : Nat) => intsC (SC.val (Go.Value.int Go.IntKind.u64 (dg (x7 % x8) i)))) ∧ x6 ≤ 1000 ∧ ((vn 8 fun (i : Nat) => dg (x5 / x4) i) % M256 % M256 = x2 ∧ True) ∧ ((vn x6 fun (i : Nat) => dg (x5 % x4) i) % M256 % M256 = x3 ∧ True) ∧ (0 : Int) = e) ∧ (∀ (_ : Nat), True) ∧ (dgs 8 fun (i : Nat) => intsC (SC.val (Go.Value.int Go.IntKind.u64 (dg (x7 / x8) i)))) ∧ 8 ≤ 1000 ∧ (∀ (_ : Nat), True) ∧ (dgs (remL x7 x8 8) fun (i : Nat) => intsC (SC.val (Go.Value.int Go.IntKind.u64 (dg (x7 % x8) i)))) ∧ x6 ≤ 1000 ∧ ((vn 8 fun (i : Nat) => dg (x5 / x4) i) % M256 % M256 = x2 ∧ True) ∧ ((vn x6 fun (i : Nat) => dg (x5 % x4) i) % M256 % M256 = x3 ∧ True) ∧ (0 : Int) = e)) := by kernel_rfl
theorem vc_refOrd (a b : Nat) :
  OwesV Try.prog .none slAll [] 4 Try.f28 [sU a, sU b] (ordG a b) =
  (let x1 : Nat := a % M256; let x2 : Nat := b % M256; ((∀ (a : Option Go.Addr) (cap : Nat), (a = Option.none → 8 = 0 ∧ cap = 0) → 8 ≤ cap → ∀ (a : Option Go.Addr) (cap : Nat), (a = Option.none → 8 = 0 ∧ cap = 0) → 8 ≤ cap → (∀ (_ : Nat), True) ∧ (∀ (_ : Nat), True) ∧ (dgs 8 fun (i : Nat) => intsC (SC.val (Go.Value.int Go.IntKind.u64 (dg x1 i)))) ∧ 8 ≤ 1000 ∧ (dgs 8 fun (i : Nat) => intsC (SC.val (Go.Value.int Go.IntKind.u64 (dg x2 i)))) ∧ 8 ≤ 1000 ∧ cmpI (vn 8 fun (i : Nat) => dg x1 i) (vn 8 fun (i : Nat) => dg x2 i) = cmpI x1 x2) ∧ ∀ (a : Option Go.Addr) (cap : Nat), (a = Option.none → 8 = 0 ∧ cap = 0) → 8 ≤ cap → ∀ (a : Option Go.Addr) (cap : Nat), (a = Option.none → 8 = 0 ∧ cap = 0) → 8 ≤ cap → (∀ (_ : Nat), True) ∧ (∀ (_ : Nat), True) ∧ (dgs 8 fun (i : Nat) => intsC (SC.val (Go.Value.int Go.IntKind.u64 (dg x1 i)))) ∧ 8 ≤ 1000 ∧ (dgs 8 fun (i : Nat) => intsC (SC.val (Go.Value.int Go.IntKind.u64 (dg x2 i)))) ∧ 8 ≤ 1000 ∧ cmpI (vn 8 fun (i : Nat) => dg x1 i) (vn 8 fun (i : Nat) => dg x2 i) = cmpI x1 x2) ∧ ∀ (a : Option Go.Addr) (cap : Nat), (a = Option.none → 8 = 0 ∧ cap = 0) → 8 ≤ cap → ∀ (a : Option Go.Addr) (cap : Nat), (a = Option.none → 8 = 0 ∧ cap = 0) → 8 ≤ cap → (∀ (_ : Nat), True) ∧ (∀ (_ : Nat), True) ∧ (dgs 8 fun (i : Nat) => intsC (SC.val (Go.Value.int Go.IntKind.u64 (dg x1 i)))) ∧ 8 ≤ 1000 ∧ (dgs 8 fun (i : Nat) => intsC (SC.val (Go.Value.int Go.IntKind.u64 (dg x2 i)))) ∧ 8 ≤ 1000 ∧ cmpI (vn 8 fun (i : Nat) => dg x1 i) (vn 8 fun (i : Nat) => dg x2 i) = cmpI x1 x2) := by kernel_rfl
theorem vc_refRest (a : Option Addr) (n c : Nat) (f : Nat → Int) (m : Nat) :
  OwesR Try.prog .none slAll [] 4 Try.f53 [xsI a n c .u64 f, sU m] false (restUR n f m) =
  (let x1 : Nat := m % M256; let x2 : Nat := vn 8 fun (i : Nat) => dg x1 i; let x3 : Nat := remL (vn n fun (i : Nat) => f i) x2 n; let x4 : Nat := vn n fun (i : Nat) => intsC (SC.val (Go.Value.int Go.IntKind.u64 (f i))); let x5 : Nat := vn 8 fun (i : Nat) => intsC (SC.val (Go.Value.int Go.IntKind.u64 (dg x1 i))); ∀ (a : Option Go.Addr) (cap : Nat), (a = Option.none → 8 = 0 ∧ cap = 0) → 8 ≤ cap → (∀ (_ : Nat), True) ∧ (∀ (_ : Nat), True) ∧ (dgs n fun (i : Nat) => intsC (SC.val (Go.Value.int Go.IntKind.u64 (f i)))) ∧ n ≤ 1000 ∧ (dgs 8 fun (i : Nat) => intsC (SC.val (Go.Value.int Go.IntKind.u64 (dg x1 i)))) ∧ 8 ≤ 900 ∧ x2 ≠ 0 ∧ ∀ (a : Option Go.Addr) (cap : Nat), (a = Option.none → n = 0 ∧ cap = 0) → n ≤ cap → ∀ (a : Option Go.Addr) (cap : Nat), (a = Option.none → x3 = 0 ∧ cap = 0) → x3 ≤ cap → (∀ (_ : Nat), True) ∧ (dgs (remL x4 x5 n) fun (i : Nat) => intsC (SC.val (Go.Value.int Go.IntKind.u64 (dg (x4 % x5) i)))) ∧ x3 ≤ 1000 ∧ (vn x3 fun (i : Nat) => dg ((vn n fun (i : Nat) => f i) % x2) i) % M256 % M256 = vn n f % x1 % M256 ∧ True) := by kernel_rfl
theorem vc_refTot (a b m : Nat) :
  OwesV Try.prog .none slRest [] 4 Try.f40 [sU a, sU b, sU m] (totG a b m) =
  (let x1 : Nat := a % M256; let x2 : Nat := b % M256; let x3 : Nat := m % M256; ((∀ (a : Option Go.Addr) (cap : Nat), (a = Option.none → 8 = 0 ∧ cap = 0) → 8 ≤ cap → ((∀ (a : Option Go.Addr) (cap : Nat), (a = Option.none → 8 = 0 ∧ cap = 0) → 8 ≤ cap → ((∀ (_ : Nat), True) ∧ (∀ (_ : Nat), True) ∧ (dgs 8 fun (i : Nat) => intsC (SC.val (Go.Value.int Go.IntKind.u64 (dg x1 i)))) ∧ 8 ≤ 1000 ∧ (dgs 8 fun (i : Nat) => intsC (SC.val (Go.Value.int Go.IntKind.u64 (dg x2 i)))) ∧ 8 ≤ 1000 ∧ ∀ (a : Option Go.Addr) (cap : Nat), (a = Option.none → 9 = 0 ∧ cap = 0) → 9 ≤ cap → (∀ (_ : Nat), True) ∧ (dgs 9 fun (i : Nat) => intsC (SC.val (Go.Value.int Go.IntKind.u64 (dg ((vn 8 fun (i : Nat) => intsC (SC.val (Go.Value.int Go.IntKind.u64 (dg x1 i)))) + vn 8 fun (i : Nat) => intsC (SC.val (Go.Value.int Go.IntKind.u64 (dg x2 i)))) i)))) ∧ 9 ≤ 1000 ∧ x3 ≠ 0 ∧ (vn 9 fun (i : Nat) => dg ((vn 8 fun (i : Nat) => dg x1 i) + vn 8 fun (i : Nat) => dg x2 i) i) % x3 % M256 = (x1 + x2) % x3 % M256 ∧ True) ∧ (∀ (_ : Nat), True) ∧ (∀ (_ : Nat), True) ∧ (dgs 8 fun (i : Nat) => intsC (SC.val (Go.Value.int Go.IntKind.u64 (dg x1 i)))) ∧ 8 ≤ 1000 ∧ (dgs 8 fun (i : Nat) => intsC (SC.val (Go.Value.int Go.IntKind.u64 (dg x2 i)))) ∧ 8 ≤ 1000 ∧ ∀ (a : Option Go.Addr) (cap : Nat), (a = Option.none → 9 = 0 ∧ cap = 0) → 9 ≤ cap → (∀ (_ : Nat), True) ∧ (dgs 9 fun (i : Nat) => intsC (SC.val (Go.Value.int Go.IntKind.u64 (dg ((vn 8 fun (i : Nat) => intsC (SC.val (Go.Value.int Go.IntKind.u64 (dg x1 i)))) + vn 8 fun (i : Nat) => intsC (SC.val (Go.Value.int Go.IntKind.u64 (dg x2 i)))) i)))) ∧ 9 ≤ 1000 ∧ x3 ≠ 0 ∧ (vn 9 fun (i : Nat) => dg ((vn 8 fun (i : Nat) => dg x1 i) + vn 8 fun (i : Nat) => dg x2 i) i) % x3 % M256 = (x1 + x2) % x3 % M256 ∧ True) ∧ ∀ (a : Option Go.Addr) (cap : Nat), (a = Option.none → 8 = 0 ∧ cap = 0) → 8 ≤ cap → (∀ (_ : Nat), True) ∧ (∀ (_ : Nat), True) ∧ (dgs 8 fun (i : Nat) => intsC (SC.val (Go.Value.int Go.IntKind.u64 (dg x1 i)))) ∧ 8 ≤ 1000 ∧ (dgs 8 fun (i : Nat) => intsC (SC.val (Go.Value.int Go.IntKind.u64 (dg x2 i)))) ∧ 8 ≤ 1000 ∧ ∀ (a : Option Go.Addr) (cap : Nat), (a = Option.none → 9 = 0 ∧ cap = 0) → 9 ≤ cap → (∀ (_ : Nat), True) ∧ (dgs 9 fun (i : Nat) => intsC (SC.val (Go.Value.int Go.IntKind.u64 (dg ((vn 8 fun (i : Nat) => intsC (SC.val (Go.Value.int Go.IntKind.u64 (dg x1 i)))) + vn 8 fun (i : Nat) => intsC (SC.val (Go.Value.int Go.IntKind.u64 (dg x2 i)))) i)))) ∧ 9 ≤ 1000 ∧ x3 ≠ 0 ∧ (vn 9 fun (i : Nat) => dg ((vn 8 fun (i : Nat) => dg x1 i) + vn 8 fun (i : Nat) => dg x2 i) i) % x3 % M256 = (x1 + x2) % x3 % M256 ∧ True) ∧ ∀ (a : Option Go.Addr) (cap : Nat), (a = Option.none → 8 = 0 ∧ cap = 0) → 8 ≤ cap → (∀ (_ : Nat), True) ∧ (∀ (_ : Nat), True) ∧ (dgs 8 fun (i : Nat) => intsC (SC.val (Go.Value.int Go.IntKind.u64 (dg x1 i)))) ∧ 8 ≤ 1000 ∧ (dgs 8 fun (i : Nat) => intsC (SC.val (Go.Value.int Go.IntKind.u64 (dg x2 i)))) ∧ 8 ≤ 1000 ∧ ∀ (a : Option Go.Addr) (cap : Nat), (a = Option.none → 9 = 0 ∧ cap = 0) → 9 ≤ cap → (∀ (_ : Nat), True) ∧ (dgs 9 fun (i : Nat) => intsC (SC.val (Go.Value.int Go.IntKind.u64 (dg ((vn 8 fun (i : Nat) => intsC (SC.val (Go.Value.int Go.IntKind.u64 (dg x1 i)))) + vn 8 fun (i : Nat) => intsC (SC.val (Go.Value.int Go.IntKind.u64 (dg x2 i)))) i)))) ∧ 9 ≤ 1000 ∧ x3 ≠ 0 ∧ (vn 9 fun (i : Nat) => dg ((vn 8 fun (i : Nat) => dg x1 i) + vn 8 fun (i : Nat) => dg x2 i) i) % x3 % M256 = (x1 + x2) % x3 % M256 ∧ True) ∧ ((∀ (a : Option Go.Addr) (cap : Nat), (a = Option.none → 8 = 0 ∧ cap = 0) → 8 ≤ cap → (∀ (a : Option Go.Addr) (cap : Nat), (a = Option.none → 8 = 0 ∧ cap = 0) → 8 ≤ cap → ((∀ (_ : Nat), True) ∧ (∀ (_ : Nat), True) ∧ (dgs 8 fun (i : Nat) => intsC (SC.val (Go.Value.int Go.IntKind.u64 (dg x1 i)))) ∧ 8 ≤ 1000 ∧ (dgs 8 fun (i : Nat) => intsC (SC.val (Go.Value.int Go.IntKind.u64 (dg x2 i)))) ∧ 8 ≤ 1000 ∧ ∀ (a : Option Go.Addr) (cap : Nat), (a = Option.none → 9 = 0 ∧ cap = 0) → 9 ≤ cap → (∀ (_ : Nat), True) ∧ (dgs 9 fun (i : Nat) => intsC (SC.val (Go.Value.int Go.IntKind.u64 (dg ((vn 8 fun (i : Nat) => intsC (SC.val (Go.Value.int Go.IntKind.u64 (dg x1 i)))) + vn 8 fun (i : Nat) => intsC (SC.val (Go.Value.int Go.IntKind.u64 (dg x2 i)))) i)))) ∧ 9 ≤ 1000 ∧ x3 ≠ 0 ∧ (vn 9 fun (i : Nat) => dg ((vn 8 fun (i : Nat) => dg x1 i) + vn 8 fun (i : Nat) => dg x2 i) i) % x3 % M256 = (x1 + x2) % x3 % M256 ∧ True) ∧ (∀ (_ : Nat), True) ∧ (∀ (_ : Nat), True) ∧ (dgs 8 fun (i : Nat) => intsC (SC.val (Go.Value.int Go.IntKind.u64 (dg x1 i)))) ∧ 8 ≤ 1000 ∧ (dgs 8 fun (i : Nat) => intsC (SC.val (Go.Value.int Go.IntKind.u64 (dg x2 i)))) ∧ 8 ≤ 1000 ∧ ∀ (a : Option Go.Addr) (cap : Nat), (a = Option.none → 9 = 0 ∧ cap = 0) → 9 ≤ cap → (∀ (_ : Nat), True) ∧ (dgs 9 fun (i : Nat) => intsC (SC.val (Go.Value.int Go.IntKind.u64 (dg ((vn 8 fun (i : Nat) => intsC (SC.val (Go.Value.int Go.IntKind.u64 (dg x1 i)))) + vn 8 fun (i : Nat) => intsC (SC.val (Go.Value.int Go.IntKind.u64 (dg x2 i)))) i)))) ∧ 9 ≤ 1000 ∧ x3 ≠ 0 ∧ (vn 9 fun (i : Nat) => dg ((vn 8 fun (i : Nat) => dg x1 i) + vn 8 fun (i : Nat) => dg x2 i) i) % x3 % M256 = (x1 + x2) % x3 % M256 ∧ True) ∧ ∀ (a : Option Go.Addr) (cap : Nat), (a = Option.none → 8 = 0 ∧ cap = 0) → 8 ≤ cap → (∀ (_ : Nat), True) ∧ (∀ (_ : Nat), True) ∧ (dgs 8 fun (i : Nat) => intsC (SC.val (Go.Value.int Go.IntKind.u64 (dg x1 i)))) ∧ 8 ≤ 1000 ∧ (dgs 8 fun (i : Nat) => intsC (SC.val (Go.Value.int Go.IntKind.u64 (dg x2 i)))) ∧ 8 ≤ 1000 ∧ ∀ (a : Option Go.Addr) (cap : Nat), (a = Option.none → 9 = 0 ∧ cap = 0) → 9 ≤ cap → (∀ (_ : Nat), True) ∧ (dgs 9 fun (i : Nat) => intsC (SC.val (Go.Value.int Go.IntKind.u64 (dg ((vn 8 fun (i : Nat) => intsC (SC.val (Go.Value.int Go.IntKind.u64 (dg x1 i)))) + vn 8 fun (i : Nat) => intsC (SC.val (Go.Value.int Go.IntKind.u64 (dg x2 i)))) i)))) ∧ 9 ≤ 1000 ∧ x3 ≠ 0 ∧ (vn 9 fun (i : Nat) => dg ((vn 8 fun (i : Nat) => dg x1 i) + vn 8 fun (i : Nat) => dg x2 i) i) % x3 % M256 = (x1 + x2) % x3 % M256 ∧ True) ∧ ∀ (a : Option Go.Addr) (cap : Nat), (a = Option.none → 8 = 0 ∧ cap = 0) → 8 ≤ cap → ∀ (a : Option Go.Addr) (cap : Nat), (a = Option.none → 8 = 0 ∧ cap = 0) → 8 ≤ cap → (∀ (_ : Nat), True) ∧ (∀ (_ : Nat), True) ∧ (dgs 8 fun (i : Nat) => intsC (SC.val (Go.Value.int Go.IntKind.u64 (dg x1 i)))) ∧ 8 ≤ 1000 ∧ (dgs 8 fun (i : Nat) => intsC (SC.val (Go.Value.int Go.IntKind.u64 (dg x2 i)))) ∧ 8 ≤ 1000 ∧ ∀ (a : Option Go.Addr) (cap : Nat), (a = Option.none → 9 = 0 ∧ cap = 0) → 9 ≤ cap → (∀ (_ : Nat), True) ∧ (dgs 9 fun (i : Nat) => intsC (SC.val (Go.Value.int Go.IntKind.u64 (dg ((vn 8 fun (i : Nat) => intsC (SC.val (Go.Value.int Go.IntKind.u64 (dg x1 i)))) + vn 8 fun (i : Nat) => intsC (SC.val (Go.Value.int Go.IntKind.u64 (dg x2 i)))) i)))) ∧ 9 ≤ 1000 ∧ x3 ≠ 0 ∧ (vn 9 fun (i : Nat) => dg ((vn 8 fun (i : Nat) => dg x1 i) + vn 8 fun (i : Nat) => dg x2 i) i) % x3 % M256 = (x1 + x2) % x3 % M256 ∧ True) ∧ (∀ (a : Option Go.Addr) (cap : Nat), (a = Option.none → 8 = 0 ∧ cap = 0) → 8 ≤ cap → ∀ (a : Option Go.Addr) (cap : Nat), (a = Option.none → 8 = 0 ∧ cap = 0) → 8 ≤ cap → (∀ (_ : Nat), True) ∧ (∀ (_ : Nat), True) ∧ (dgs 8 fun (i : Nat) => intsC (SC.val (Go.Value.int Go.IntKind.u64 (dg x1 i)))) ∧ 8 ≤ 1000 ∧ (dgs 8 fun (i : Nat) => intsC (SC.val (Go.Value.int Go.IntKind.u64 (dg x2 i)))) ∧ 8 ≤ 1000 ∧ ∀ (a : Option Go.Addr) (cap : Nat), (a = Option.none → 9 = 0 ∧ cap = 0) → 9 ≤ cap → (∀ (_ : Nat), True) ∧ (dgs 9 fun (i : Nat) => intsC (SC.val (Go.Value.int Go.IntKind.u64 (dg ((vn 8 fun (i : Nat) => intsC (SC.val (Go.Value.int Go.IntKind.u64 (dg x1 i)))) + vn 8 fun (i : Nat) => intsC (SC.val (Go.Value.int Go.IntKind.u64 (dg x2 i)))) i)))) ∧ 9 ≤ 1000 ∧ x3 ≠ 0 ∧ (vn 9 fun (i : Nat) => dg ((vn 8 fun (i : Nat) => dg x1 i) + vn 8 fun (i : Nat) => dg x2 i) i) % x3 % M256 = (x1 + x2) % x3 % M256 ∧ True) ∧ ∀ (a : Option Go.Addr) (cap : Nat), (a = Option.none → 8 = 0 ∧ cap = 0) → 8 ≤ cap → ∀ (a : Option Go.Addr) (cap : Nat), (a = Option.none → 8 = 0 ∧ cap = 0) → 8 ≤ cap → (∀ (_ : Nat), True) ∧ (∀ (_ : Nat), True) ∧ (dgs 8 fun (i : Nat) => intsC (SC.val (Go.Value.int Go.IntKind.u64 (dg x1 i)))) ∧ 8 ≤ 1000 ∧ (dgs 8 fun (i : Nat) => intsC (SC.val (Go.Value.int Go.IntKind.u64 (dg x2 i)))) ∧ 8 ≤ 1000 ∧ ∀ (a : Option Go.Addr) (cap : Nat), (a = Option.none → 9 = 0 ∧ cap = 0) → 9 ≤ cap → (∀ (_ : Nat), True) ∧ (dgs 9 fun (i : Nat) => intsC (SC.val (Go.Value.int Go.IntKind.u64 (dg ((vn 8 fun (i : Nat) => intsC (SC.val (Go.Value.int Go.IntKind.u64 (dg x1 i)))) + vn 8 fun (i : Nat) => intsC (SC.val (Go.Value.int Go.IntKind.u64 (dg x2 i)))) i)))) ∧ 9 ≤ 1000 ∧ x3 ≠ 0 ∧ (vn 9 fun (i : Nat) => dg ((vn 8 fun (i : Nat) => dg x1 i) + vn 8 fun (i : Nat) => dg x2 i) i) % x3 % M256 = (x1 + x2) % x3 % M256 ∧ True) ∧ (((∀ (a : Option Go.Addr) (cap : Nat), (a = Option.none → 8 = 0 ∧ cap = 0) → 8 ≤ cap → (∀ (a : Option Go.Addr) (cap : Nat), (a = Option.none → 8 = 0 ∧ cap = 0) → 8 ≤ cap → ((∀ (_ : Nat), True) ∧ (∀ (_ : Nat), True) ∧ (dgs 8 fun (i : Nat) => intsC (SC.val (Go.Value.int Go.IntKind.u64 (dg x1 i)))) ∧ 8 ≤ 1000 ∧ (dgs 8 fun (i : Nat) => intsC (SC.val (Go.Value.int Go.IntKind.u64 (dg x2 i)))) ∧ 8 ≤ 1000 ∧ ∀ (a : Option Go.Addr) (cap : Nat), (a = Option.none → 9 = 0 ∧ cap = 0) → 9 ≤ cap → (∀ (_ : Nat), True) ∧ (dgs 9 fun (i : Nat) => intsC (SC.val (Go.Value.int Go.IntKind.u64 (dg ((vn 8 fun (i : Nat) => intsC (SC.val (Go.Value.int Go.IntKind.u64 (dg x1 i)))) + vn 8 fun (i : Nat) => intsC (SC.val (Go.Value.int Go.IntKind.u64 (dg x2 i)))) i)))) ∧ 9 ≤ 1000 ∧ x3 ≠ 0 ∧ (vn 9 fun (i : Nat) => dg ((vn 8 fun (i : Nat) => dg x1 i) + vn 8 fun (i : Nat) => dg x2 i) i) % x3 % M256 = (x1 + x2) % x3 % M256 ∧ True) ∧ (∀ (_ : Nat), True) ∧ (∀ (_ : Nat), True) ∧ (dgs 8 fun (i : Nat) => intsC (SC.val (Go.Value.int Go.IntKind.u64 (dg x1 i)))) ∧ 8 ≤ 1000 ∧ (dgs 8 fun (i : Nat) => intsC (SC.val (Go.Value.int Go.IntKind.u64 (dg x2 i)))) ∧ 8 ≤ 1000 ∧ ∀ (a : Option Go.Addr) (cap : Nat), (a = Option.none → 9 = 0 ∧ cap = 0) → 9 ≤ cap → (∀ (_ : Nat), True) ∧ (dgs 9 fun (i : Nat) => intsC (SC.val (Go.Value.int Go.IntKind.u64 (dg ((vn 8 fun (i : Nat) => intsC (SC.val (Go.Value.int Go.IntKind.u64 (dg x1 i)))) + vn 8 fun (i : Nat) => intsC (SC.val (Go.Value.int Go.IntKind.u64 (dg x2 i)))) i)))) ∧ 9 ≤ 1000 ∧ x3 ≠ 0 ∧ (vn 9 fun (i : Nat) => dg ((vn 8 fun (i : Nat) => dg x1 i) + vn 8 fun (i : Nat) => dg x2 i) i) % x3 % M256 = (x1 + x2) % x3 % M256 ∧ True) ∧ ∀ (a : Option Go.Addr) (cap : Nat), (a = Option.none → 8 = 0 ∧ cap = 0) → 8 ≤ cap → (∀ (_ : Nat), True) ∧ (∀ (_ : Nat), True) ∧ (dgs 8 fun (i : Nat) => intsC (SC.val (Go.Value.int Go.IntKind.u64 (dg x1 i)))) ∧ 8 ≤ 1000 ∧ (dgs 8 fun (i : Nat) => intsC (SC.val (Go.Value.int Go.IntKind.u64 (dg x2 i)))) ∧ 8 ≤ 1000 ∧ ∀ (a : Option Go.Addr) (cap : Nat), (a = Option.none → 9 = 0 ∧ cap = 0) → 9 ≤ cap → (∀ (_ : Nat), True) ∧ (dgs 9 fun (i : Nat) => intsC (SC.val (Go.Value.int Go.IntKind.u64 (dg ((vn 8 fun (i : Nat) => intsC (SC.val (Go.Value.int Go.IntKind.u64 (dg x1 i)))) + vn 8 fun (i : Nat) => intsC (SC.val (Go.Value.int Go.IntKind.u64 (dg x2 i)))) i)))) ∧ 9 ≤ 1000 ∧ x3 ≠ 0 ∧ (vn 9 fun (i : Nat) => dg ((vn 8 fun (i : Nat) => dg x1 i) + vn 8 fun (i : Nat) => dg x2 i) i) % x3 % M256 = (x1 + x2) % x3 % M256 ∧ True) ∧ ∀ (a : Option Go.Addr) (cap : Nat), (a = Option.none → 8 = 0 ∧ cap = 0) → 8 ≤ cap → ∀ (a : Option Go.Addr) (cap : Nat), (a = Option.none → 8 = 0 ∧ cap = 0) → 8 ≤ cap → (∀ (_ : Nat), True) ∧ (∀ (_ : Nat), True) ∧ (dgs 8 fun (i : Nat) => intsC (SC.val (Go.Value.int Go.IntKind.u64 (dg x1 i)))) ∧ 8 ≤ 1000 ∧ (dgs 8 fun (i : Nat) => intsC (SC.val (Go.Value.int Go.IntKind.u64 (dg x2 i)))) ∧ 8 ≤ 1000 ∧ ∀ (a : Option Go.Addr) (cap : Nat), (a = Option.none → 9 = 0 ∧ cap = 0) → 9 ≤ cap → (∀ (_ : Nat), True) ∧ (dgs 9 fun (i : Nat) => intsC (SC.val (Go.Value.int Go.IntKind.u64 (dg ((vn 8 fun (i : Nat) => intsC (SC.val (Go.Value.int Go.IntKind.u64 (dg x1 i)))) + vn 8 fun (i : Nat) => intsC (SC.val (Go.Value.int Go.IntKind.u64 (dg x2 i)))) i)))) ∧ 9 ≤ 1000 ∧ x3 ≠ 0 ∧ (vn 9 fun (i : Nat) => dg ((vn 8 fun (i : Nat) => dg x1 i) + vn 8 fun (i : Nat) => dg x2 i) i) % x3 % M256 = (x1 + x2) % x3 % M256 ∧ True) ∧ ∀ (a : Option Go.Addr) (cap : Nat), (a = Option.none → 8 = 0 ∧ cap = 0) → 8 ≤ cap → ∀ (a : Option Go.Addr) (cap : Nat), (a = Option.none → 8 = 0 ∧ cap = 0) → 8 ≤ cap → (∀ (_ : Nat), True) ∧ (∀ (_ : Nat), True) ∧ (dgs 8 fun (i : Nat) => intsC (SC.val (Go.Value.int Go.IntKind.u64 (dg x1 i)))) ∧ 8 ≤ 1000 ∧ (dgs 8 fun (i : Nat) => intsC (SC.val (Go.Value.int Go.IntKind.u64 (dg x2 i)))) ∧ 8 ≤ 1000 ∧ ∀ (a : Option Go.Addr) (cap : Nat), (a = Option.none → 9 = 0 ∧ cap = 0) → 9 ≤ cap → (∀ (_ : Nat), True) ∧ (dgs 9 fun (i : Nat) => intsC (SC.val (Go.Value.int Go.IntKind.u64 (dg ((vn 8 fun (i : Nat) => intsC (SC.val (Go.Value.int Go.IntKind.u64 (dg x1 i)))) + vn 8 fun (i : Nat) => intsC (SC.val (Go.Value.int Go.IntKind.u64 (dg x2 i)))) i)))) ∧ 9 ≤ 1000 ∧ x3 ≠ 0 ∧ (vn 9 fun (i : Nat) => dg ((vn 8 fun (i : Nat) => dg x1 i) + vn 8 fun (i : Nat) => dg x2 i) i) % x3 % M256 = (x1 + x2) % x3 % M256 ∧ True) ∧ ((∀ (a : Option Go.Addr) (cap : Nat), (a = Option.none → 8 = 0 ∧ cap = 0) → 8 ≤ cap → ∀ (a : Option Go.Addr) (cap : Nat), (a = Option.none → 8 = 0 ∧ cap = 0) → 8 ≤ cap → (∀ (_ : Nat), True) ∧ (∀ (_ : Nat), True) ∧ (dgs 8 fun (i : Nat) => intsC (SC.val (Go.Value.int Go.IntKind.u64 (dg x1 i)))) ∧ 8 ≤ 1000 ∧ (dgs 8 fun (i : Nat) => intsC (SC.val (Go.Value.int Go.IntKind.u64 (dg x2 i)))) ∧ 8 ≤ 1000 ∧ ∀ (a : Option Go.Addr) (cap : Nat), (a = Option.none → 9 = 0 ∧ cap = 0) → 9 ≤ cap → (∀ (_ : Nat), True) ∧ (dgs 9 fun (i : Nat) => intsC (SC.val (Go.Value.int Go.IntKind.u64 (dg ((vn 8 fun (i : Nat) => intsC (SC.val (Go.Value.int Go.IntKind.u64 (dg x1 i)))) + vn 8 fun (i : Nat) => intsC (SC.val (Go.Value.int Go.IntKind.u64 (dg x2 i)))) i)))) ∧ 9 ≤ 1000 ∧ x3 ≠ 0 ∧ (vn 9 fun (i : Nat) => dg ((vn 8 fun (i : Nat) => dg x1 i) + vn 8 fun (i : Nat) => dg x2 i) i) % x3 % M256 = (x1 + x2) % x3 % M256 ∧ True) ∧ ∀ (a : Option Go.Addr) (cap : Nat), (a = Option.none → 8 = 0 ∧ cap = 0) → 8 ≤ cap → ∀ (a : Option Go.Addr) (cap : Nat), (a = Option.none → 8 = 0 ∧ cap = 0) → 8 ≤ cap → (∀ (_ : Nat), True) ∧ (∀ (_ : Nat), True) ∧ (dgs 8 fun (i : Nat) => intsC (SC.val (Go.Value.int Go.IntKind.u64 (dg x1 i)))) ∧ 8 ≤ 1000 ∧ (dgs 8 fun (i : Nat) => intsC (SC.val (Go.Value.int Go.IntKind.u64 (dg x2 i)))) ∧ 8 ≤ 1000 ∧ ∀ (a : Option Go.Addr) (cap : Nat), (a = Option.none → 9 = 0 ∧ cap = 0) → 9 ≤ cap → (∀ (_ : Nat), True) ∧ (dgs 9 fun (i : Nat) => intsC (SC.val (Go.Value.int Go.IntKind.u64 (dg ((vn 8 fun (i : Nat) => intsC (SC.val (Go.Value.int Go.IntKind.u64 (dg x1 i)))) + vn 8 fun (i : Nat) => intsC (SC.val (Go.Value.int Go.IntKind.u64 (dg x2 i)))) i)))) ∧ 9 ≤ 1000 ∧ x3 ≠ 0 ∧ (vn 9 fun (i : Nat) => dg ((vn 8 fun (i : Nat) => dg x1 i) + vn 8 fun (i : Nat) => dg x2 i) i) % x3 % M256 = (x1 + x2) % x3 % M256 ∧ True) ∧ ∀ (a : Option Go.Addr) (cap : Nat), (a = Option.none → 8 = 0 ∧ cap = 0) → 8 ≤ cap → ∀ (a : Option Go.Addr) (cap : Nat), (a = Option.none → 8 = 0 ∧ cap = 0) → 8 ≤ cap → (∀ (_ : Nat), True) ∧ (∀ (_ : Nat), True) ∧ (dgs 8 fun (i : Nat) => intsC (SC.val (Go.Value.int Go.IntKind.u64 (dg x1 i)))) ∧ 8 ≤ 1000 ∧ (dgs 8 fun (i : Nat) => intsC (SC.val (Go.Value.int Go.IntKind.u64 (dg x2 i)))) ∧ 8 ≤ 1000 ∧ ∀ (a : Option Go.Addr) (cap : Nat), (a = Option.none → 9 = 0 ∧ cap = 0) → 9 ≤ cap → (∀ (_ : Nat), True) ∧ (dgs 9 fun (i : Nat) => intsC (SC.val (Go.Value.int Go.IntKind.u64 (dg ((vn 8 fun (i : Nat) => intsC (SC.val (Go.Value.int Go.IntKind.u64 (dg x1 i)))) + vn 8 fun (i : Nat) => intsC (SC.val (Go.Value.int Go.IntKind.u64 (dg x2 i)))) i)))) ∧ 9 ≤ 1000 ∧ x3 ≠ 0 ∧ (vn 9 fun (i : Nat) => dg ((vn 8 fun (i : Nat) => dg x1 i) + vn 8 fun (i : Nat) => dg x2 i) i) % x3 % M256 = (x1 + x2) % x3 % M256 ∧ True) := by kernel_rfl
theorem vc_refOpp (a m : Nat) (r : Nat) :
  OwesV Try.prog .none slAll [] 4 Try.f35 [sU a, sU m] (.one (sU r)) =
  (let x1 : Nat := a % M256; let x2 : Nat := r % M256; let x3 : Nat := vn 8 fun (i : Nat) => dg x1 i; let x4 : Nat := vn 8 fun (i : Nat) => dg (m % M256) i; (conj [x1 == 0] = Bool.true → x1 = x2 ∧ True) ∧ (conj [x1 == 0] = Bool.false → ((∀ (a : Option Go.Addr) (cap : Nat), (a = Option.none → 8 = 0 ∧ cap = 0) → 8 ≤ cap → ∀ (a : Option Go.Addr) (cap : Nat), (a = Option.none → 8 = 0 ∧ cap = 0) → 8 ≤ cap → (∀ (_ : Nat), True) ∧ (∀ (_ : Nat), True) ∧ (dgs 8 fun (i : Nat) => intsC (SC.val (Go.Value.int Go.IntKind.u64 (dg (m % M256) i)))) ∧ 8 ≤ 1000 ∧ (dgs 8 fun (i : Nat) => intsC (SC.val (Go.Value.int Go.IntKind.u64 (dg x1 i)))) ∧ 8 ≤ 1000 ∧ x3 ≤ x4 ∧ ∀ (a : Option Go.Addr) (cap : Nat), (a = Option.none → 8 = 0 ∧ cap = 0) → 8 ≤ cap → (∀ (_ : Nat), True) ∧ (dgs 8 fun (i : Nat) => intsC (SC.val (Go.Value.int Go.IntKind.u64 (dg ((vn 8 fun (i : Nat) => intsC (SC.val (Go.Value.int Go.IntKind.u64 (dg (m % M256) i)))) - vn 8 fun (i : Nat) => intsC (SC.val (Go.Value.int Go.IntKind.u64 (dg x1 i)))) i)))) ∧ 8 ≤ 1000 ∧ (vn 8 fun (i : Nat) => dg (x4 - x3) i) % M256 % M256 = x2 ∧ True) ∧ ∀ (a : Option Go.Addr) (cap : Nat), (a = Option.none → 8 = 0 ∧ cap = 0) → 8 ≤ cap → ∀ (a : Option Go.Addr) (cap : Nat), (a = Option.none → 8 = 0 ∧ cap = 0) → 8 ≤ cap → (∀ (_ : Nat), True) ∧ (∀ (_ : Nat), True) ∧ (dgs 8 fun (i : Nat) => intsC (SC.val (Go.Value.int Go.IntKind.u64 (dg (m % M256) i)))) ∧ 8 ≤ 1000 ∧ (dgs 8 fun (i : Nat) => intsC (SC.val (Go.Value.int Go.IntKind.u64 (dg x1 i)))) ∧ 8 ≤ 1000 ∧ x3 ≤ x4 ∧ ∀ (a : Option Go.Addr) (cap : Nat), (a = Option.none → 8 = 0 ∧ cap = 0) → 8 ≤ cap → (∀ (_ : Nat), True) ∧ (dgs 8 fun (i : Nat) => intsC (SC.val (Go.Value.int Go.IntKind.u64 (dg ((vn 8 fun (i : Nat) => intsC (SC.val (Go.Value.int Go.IntKind.u64 (dg (m % M256) i)))) - vn 8 fun (i : Nat) => intsC (SC.val (Go.Value.int Go.IntKind.u64 (dg x1 i)))) i)))) ∧ 8 ≤ 1000 ∧ (vn 8 fun (i : Nat) => dg (x4 - x3) i) % M256 % M256 = x2 ∧ True) ∧ ∀ (a : Option Go.Addr) (cap : Nat), (a = Option.none → 8 = 0 ∧ cap = 0) → 8 ≤ cap → ∀ (a : Option Go.Addr) (cap : Nat), (a = Option.none → 8 = 0 ∧ cap = 0) → 8 ≤ cap → (∀ (_ : Nat), True) ∧ (∀ (_ : Nat), True) ∧ (dgs 8 fun (i : Nat) => intsC (SC.val (Go.Value.int Go.IntKind.u64 (dg (m % M256) i)))) ∧ 8 ≤ 1000 ∧ (dgs 8 fun (i : Nat) => intsC (SC.val (Go.Value.int Go.IntKind.u64 (dg x1 i)))) ∧ 8 ≤ 1000 ∧ x3 ≤ x4 ∧ ∀ (a : Option Go.Addr) (cap : Nat), (a = Option.none → 8 = 0 ∧ cap = 0) → 8 ≤ cap → (∀ (_ : Nat), True) ∧ (dgs 8 fun (i : Nat) => intsC (SC.val (Go.Value.int Go.IntKind.u64 (dg ((vn 8 fun (i : Nat) => intsC (SC.val (Go.Value.int Go.IntKind.u64 (dg (m % M256) i)))) - vn 8 fun (i : Nat) => intsC (SC.val (Go.Value.int Go.IntKind.u64 (dg x1 i)))) i)))) ∧ 8 ≤ 1000 ∧ (vn 8 fun (i : Nat) => dg (x4 - x3) i) % M256 % M256 = x2 ∧ True)) := by kernel_rfl
theorem vc_refPro (a b m : Nat) (r : Nat) :
  OwesV Try.prog .none slRest [] 4 Try.f41 [sU a, sU b, sU m] (.one (sU r)) =
  (let x1 : Bool := Go.IntKind.u64.wrap (↑(BitVec.ofInt 64 (Go.IntKind.u64.wrap (↑(BitVec.ofInt 64 (limb m 1) ||| BitVec.ofInt 64 (limb m 2)).toNat : Int)) ||| BitVec.ofInt 64 (limb m 3)).toNat : Int) == (0 : Int); let x2 : Int := (Go.IntKind.u64.wrap (limb a 0 * limb b 0)).tmod (limb m 0); let x3 : Nat := r % M256; let x4 : Nat := m % M256; (x1 = Bool.true → x1 = Bool.true) ∧ (x1 = Bool.true → x1 = Bool.true) ∧ (x1 = Bool.true → x1 = Bool.true) ∧ ((x1 && Decidable.decide (limb m 0 < (4294967296 : Int))) = Bool.true → limb m 0 ≠ (0 : Int) ∧ ((0 : Int) ≤ x2 ∧ x2 < (18446744073709551616 : Int)) ∧ ((0 : Int) ≤ (0 : Int) ∧ (0 : Int) < (18446744073709551616 : Int)) ∧ ((0 : Int) ≤ (0 : Int) ∧ (0 : Int) < (18446744073709551616 : Int)) ∧ ((0 : Int) ≤ (0 : Int) ∧ (0 : Int) < (18446744073709551616 : Int)) ∧ join x2 (0 : Int) (0 : Int) (0 : Int) % M256 = x3 ∧ True) ∧ ((x1 && Decidable.decide (limb m 0 < (4294967296 : Int))) = Bool.false → ((∀ (a_2 : Option Go.Addr) (cap : Nat), (a_2 = Option.none → 8 = 0 ∧ cap = 0) → 8 ≤ cap → ((∀ (a_5 : Option Go.Addr) (cap : Nat), (a_5 = Option.none → 8 = 0 ∧ cap = 0) → 8 ≤ cap → ((∀ (_ : Nat), True) ∧ (∀ (_ : Nat), True) ∧ (dgs 8 fun (i : Nat) => intsC (SC.val (Go.Value.int Go.IntKind.u64 (dg (a % M256) i)))) ∧ 8 ≤ 1000 ∧ (dgs 8 fun (i : Nat) => intsC (SC.val (Go.Value.int Go.IntKind.u64 (dg (b % M256) i)))) ∧ 8 ≤ 1000 ∧ ∀ (a_8 : Option Go.Addr) (cap : Nat), (a_8 = Option.none → 16 = 0 ∧ cap = 0) → 16 ≤ cap → (∀ (_ : Nat), True) ∧ (dgs 16 fun (i : Nat) => intsC (SC.val (Go.Value.int Go.IntKind.u64 (dg ((vn 8 fun (i : Nat) => intsC (SC.val (Go.Value.int Go.IntKind.u64 (dg (a % M256) i)))) * vn 8 fun (i : Nat) => intsC (SC.val (Go.Value.int Go.IntKind.u64 (dg (b % M256) i)))) i)))) ∧ 16 ≤ 1000 ∧ x4 ≠ 0 ∧ (vn 16 fun (i : Nat) => dg ((vn 8 fun (i : Nat) => dg (a % M256) i) * vn 8 fun (i : Nat) => dg (b % M256) i) i) % x4 % M256 = x3 ∧ True) ∧ (∀ (_ : Nat), True) ∧ (∀ (_ : Nat), True) ∧ (dgs 8 fun (i : Nat) => intsC (SC.val (Go.Value.int Go.IntKind.u64 (dg (a % M256) i)))) ∧ 8 ≤ 1000 ∧ (dgs 8 fun (i : Nat) => intsC (SC.val (Go.Value.int Go.IntKind.u64 (dg (b % M256) i)))) ∧ 8 ≤ 1000 ∧ ∀ (a_8 : Option Go.Addr) (cap : Nat), (a_8 = Option.none → 16 = 0 ∧ cap = 0) → 16 ≤ cap → (∀ (_ : Nat), True) ∧ (dgs 16 fun (i : Nat) => intsC (SC.val (Go.Value.int Go.IntKind.u64 (dg ((vn 8 fun (i : Nat) => intsC (SC.val (Go.Value.int Go.IntKind.u64 (dg (a % M256) i)))) * vn 8 fun (i : Nat) => intsC (SC.val (Go.Value.int Go.IntKind.u64 (dg (b % M256) i)))) i)))) ∧ 16 ≤ 1000 ∧ x4 ≠ 0 ∧ (vn 16 fun (i : Nat) => dg ((vn 8 fun (i : Nat) => dg (a % M256) i) * vn 8 fun (i : Nat) => dg (b % M256) i) i) % x4 % M256 = x3 ∧ True) ∧ ∀ (a_5 : Option Go.Addr) (cap : Nat), (a_5 = Option.none → 8 = 0 ∧ cap = 0) → 8 ≤ cap → (∀ (_ : Nat), True) ∧ (∀ (_ : Nat), True) ∧ (dgs 8 fun (i : Nat) => intsC (SC.val (Go.Value.int Go.IntKind.u64 (dg (a % M256) i)))) ∧ 8 ≤ 1000 ∧ (dgs 8 fun (i : Nat) => intsC (SC.val (Go.Value.int Go.IntKind.u64 (dg (b % M256) i)))) ∧ 8 ≤ 1000 ∧ ∀ (a_8 : Option Go.Addr) (cap : Nat), (a_8 = Option.none → 16 = 0 ∧ cap = 0) → 16 ≤ cap → (∀ (_ : Nat), True) ∧ (dgs 16 fun (i : Nat) => intsC (SC.val (Go.Value.int Go.IntKind.u64 (dg ((vn 8 fun (i : Nat) => intsC (SC.val (Go.Value.int Go.IntKind.u64 (dg (a % M256) i)))) * vn 8 fun (i : Nat) => intsC (SC.val (Go.Value.int Go.IntKind.u64 (dg (b % M256) i)))) i)))) ∧ 16 ≤ 1000 ∧ x4 ≠ 0 ∧ (vn 16 fun (i : Nat) => dg ((vn 8 fun (i : Nat) => dg (a % M256) i) * vn 8 fun (i : Nat) => dg (b % M256) i) i) % x4 % M256 = x3 ∧ True) ∧ ∀ (a_5 : Option Go.Addr) (cap : Nat), (a_5 = Option.none → 8 = 0 ∧ cap = 0) → 8 ≤ cap → (∀ (_ : Nat), True) ∧ (∀ (_ : Nat), True) ∧ (dgs 8 fun (i : Nat) => intsC (SC.val (Go.Value.int Go.IntKind.u64 (dg (a % M256) i)))) ∧ 8 ≤ 1000 ∧ (dgs 8 fun (i : Nat) => intsC (SC.val (Go.Value.int Go.IntKind.u64 (dg (b % M256) i)))) ∧ 8 ≤ 1000 ∧ ∀ (a_8 : Option Go.Addr) (cap : Nat), (a_8 = Option.none → 16 = 0 ∧ cap = 0) → 16 ≤ cap → (∀ (_ : Nat), True) ∧ (dgs 16 fun (i : Nat) => intsC (SC.val (Go.Value.int Go.IntKind.u64 (dg ((vn 8 fun (i : Nat) => intsC (SC.val (Go.Value.int Go.IntKind.u64 (dg (a % M256) i)))) * vn 8 fun (i : Nat) => intsC (SC.val (Go.Value.int Go.IntKind.u64 (dg (b % M256) i)))) i)))) ∧ 16 ≤ 1000 ∧ x4 ≠ 0 ∧ (vn 16 fun (i : Nat) => dg ((vn 8 fun (i : Nat) => dg (a % M256) i) * vn 8 fun (i : Nat) => dg (b % M256) i) i) % x4 % M256 = x3 ∧ True) ∧ ((∀ (a_2 : Option Go.Addr) (cap : Nat), (a_2 = Option.none → 8 = 0 ∧ cap = 0) → 8 ≤ cap → (∀ (a_5 : Option Go.Addr) (cap : Nat), (a_5 = Option.none → 8 = 0 ∧ cap = 0) → 8 ≤ cap → ((∀ (_ : Nat), True) ∧ (∀ (_ : Nat), True) ∧ (dgs 8 fun (i : Nat) => intsC (SC.val (Go.Value.int Go.IntKind.u64 (dg (a % M256) i)))) ∧ 8 ≤ 1000 ∧ (dgs 8 fun (i : Nat) => intsC (SC.val (Go.Value.int Go.IntKind.u64 (dg (b % M256) i)))) ∧ 8 ≤ 1000 ∧ ∀ (a_8 : Option Go.Addr) (cap : Nat), (a_8 = Option.none → 16 = 0 ∧ cap = 0) → 16 ≤ cap → (∀ (_ : Nat), True) ∧ (dgs 16 fun (i : Nat) => intsC (SC.val (Go.Value.int Go.IntKind.u64 (dg ((vn 8 fun (i : Nat) => intsC (SC.val (Go.Value.int Go.IntKind.u64 (dg (a % M256) i)))) * vn 8 fun (i : Nat) => intsC (SC.val (Go.Value.int Go.IntKind.u64 (dg (b % M256) i)))) i)))) ∧ 16 ≤ 1000 ∧ x4 ≠ 0 ∧ (vn 16 fun (i : Nat) => dg ((vn 8 fun (i : Nat) => dg (a % M256) i) * vn 8 fun (i : Nat) => dg (b % M256) i) i) % x4 % M256 = x3 ∧ True) ∧ (∀ (_ : Nat), True) ∧ (∀ (_ : Nat), True) ∧ (dgs 8 fun (i : Nat) => intsC (SC.val (Go.Value.int Go.IntKind.u64 (dg (a % M256) i)))) ∧ 8 ≤ 1000 ∧ (dgs 8 fun (i : Nat) => intsC (SC.val (Go.Value.int Go.IntKind.u64 (dg (b % M256) i)))) ∧ 8 ≤ 1000 ∧ ∀ (a_8 : Option Go.Addr) (cap : Nat), (a_8 = Option.none → 16 = 0 ∧ cap = 0) → 16 ≤ cap → (∀ (_ : Nat), True) ∧ (dgs 16 fun (i : Nat) => intsC (SC.val (Go.Value.int Go.IntKind.u64 (dg ((vn 8 fun (i : Nat) => intsC (SC.val (Go.Value.int Go.IntKind.u64 (dg (a % M256) i)))) * vn 8 fun (i : Nat) => intsC (SC.val (Go.Value.int Go.IntKind.u64 (dg (b % M256) i)))) i)))) ∧ 16 ≤ 1000 ∧ x4 ≠ 0 ∧ (vn 16 fun (i : Nat) => dg ((vn 8 fun (i : Nat) => dg (a % M256) i) * vn 8 fun (i : Nat) => dg (b % M256) i) i) % x4 % M256 = x3 ∧ True) ∧ ∀ (a_5 : Option Go.Addr) (cap : Nat), (a_5 = Option.none → 8 = 0 ∧ cap = 0) → 8 ≤ cap → (∀ (_ : Nat), True) ∧ (∀ (_ : Nat), True) ∧ (dgs 8 fun (i : Nat) => intsC (SC.val (Go.Value.int Go.IntKind.u64 (dg (a % M256) i)))) ∧ 8 ≤ 1000 ∧ (dgs 8 fun (i : Nat) => intsC (SC.val (Go.Value.int Go.IntKind.u64 (dg (b % M256) i)))) ∧ 8 ≤ 1000 ∧ ∀ (a_8 : Option Go.Addr) (cap : Nat), (a_8 = Option.none → 16 = 0 ∧ cap = 0) → 16 ≤ cap → (∀ (_ : Nat), True) ∧ (dgs 16 fun (i : Nat) => intsC (SC.val (Go.Value.int Go.IntKind.u64 (dg ((vn 8 fun (i : Nat) => intsC (SC.val (Go.Value.int Go.IntKind.u64 (dg (a % M256) i)))) * vn 8 fun (i : Nat) => intsC (SC.val (Go.Value.int Go.IntKind.u64 (dg (b % M256) i)))) i)))) ∧ 16 ≤ 1000 ∧ x4 ≠ 0 ∧ (vn 16 fun (i : Nat) => dg ((vn 8 fun (i : Nat) => dg (a % M256) i) * vn 8 fun (i : Nat) => dg (b % M256) i) i) % x4 % M256 = x3 ∧ True) ∧ ∀ (a_2 : Option Go.Addr) (cap : Nat), (a_2 = Option.none → 8 = 0 ∧ cap = 0) → 8 ≤ cap → ∀ (a_5 : Option Go.Addr) (cap : Nat), (a_5 = Option.none → 8 = 0 ∧ cap = 0) → 8 ≤ cap → (∀ (_ : Nat), True) ∧ (∀ (_ : Nat), True) ∧ (dgs 8 fun (i : Nat) => intsC (SC.val (Go.Value.int Go.IntKind.u64 (dg (a % M256) i)))) ∧ 8 ≤ 1000 ∧ (dgs 8 fun (i : Nat) => intsC (SC.val (Go.Value.int Go.IntKind.u64 (dg (b % M256) i)))) ∧ 8 ≤ 1000 ∧ ∀ (a_8 : Option Go.Addr) (cap : Nat), (a_8 = Option.none → 16 = 0 ∧ cap = 0) → 16 ≤ cap → (∀ (_ : Nat), True) ∧ (dgs 16 fun (i : Nat) => intsC (SC.val (Go.Value.int Go.IntKind.u64 (dg ((vn 8 fun (i : Nat) => intsC (SC.val (Go.Value.int Go.IntKind.u64 (dg (a % M256) i)))) * vn 8 fun (i : Nat) => intsC (SC.val (Go.Value.int Go.IntKind.u64 (dg (b % M256) i)))) i)))) ∧ 16 ≤ 1000 ∧ x4 ≠ 0 ∧ (vn 16 fun (i : Nat) => dg ((vn 8 fun (i : Nat) => dg (a % M256) i) * vn 8 fun (i : Nat) => dg (b % M256) i) i) % x4 % M256 = x3 ∧ True) ∧ (∀ (a_2 : Option Go.Addr) (cap : Nat), (a_2 = Option.none → 8 = 0 ∧ cap = 0) → 8 ≤ cap → ∀ (a_5 : Option Go.Addr) (cap : Nat), (a_5 = Option.none → 8 = 0 ∧ cap = 0) → 8 ≤ cap → (∀ (_ : Nat), True) ∧ (∀ (_ : Nat), True) ∧ (dgs 8 fun (i : Nat) => intsC (SC.val (Go.Value.int Go.IntKind.u64 (dg (a % M256) i)))) ∧ 8 ≤ 1000 ∧ (dgs 8 fun (i : Nat) => intsC (SC.val (Go.Value.int Go.IntKind.u64 (dg (b % M256) i)))) ∧ 8 ≤ 1000 ∧ ∀ (a_8 : Option Go.Addr) (cap : Nat), (a_8 = Option.none → 16 = 0 ∧ cap = 0) → 16 ≤ cap → (∀ (_ : Nat), True) ∧ (dgs 16 fun (i : Nat) => intsC (SC.val (Go.Value.int Go.IntKind.u64 (dg ((vn 8 fun (i : Nat) => intsC (SC.val (Go.Value.int Go.IntKind.u64 (dg (a % M256) i)))) * vn 8 fun (i : Nat) => intsC (SC.val (Go.Value.int Go.IntKind.u64 (dg (b % M256) i)))) i)))) ∧ 16 ≤ 1000 ∧ x4 ≠ 0 ∧ (vn 16 fun (i : Nat) => dg ((vn 8 fun (i : Nat) => dg (a % M256) i) * vn 8 fun (i : Nat) => dg (b % M256) i) i) % x4 % M256 = x3 ∧ True) ∧ ∀ (a_2 : Option Go.Addr) (cap : Nat), (a_2 = Option.none → 8 = 0 ∧ cap = 0) → 8 ≤ cap → ∀ (a_5 : Option Go.Addr) (cap : Nat), (a_5 = Option.none → 8 = 0 ∧ cap = 0) → 8 ≤ cap → (∀ (_ : Nat), True) ∧ (∀ (_ : Nat), True) ∧ (dgs 8 fun (i : Nat) => intsC (SC.val (Go.Value.int Go.IntKind.u64 (dg (a % M256) i)))) ∧ 8 ≤ 1000 ∧ (dgs 8 fun (i : Nat) => intsC (SC.val (Go.Value.int Go.IntKind.u64 (dg (b % M256) i)))) ∧ 8 ≤ 1000 ∧ ∀ (a_8 : Option Go.Addr) (cap : Nat), (a_8 = Option.none → 16 = 0 ∧ cap = 0) → 16 ≤ cap → (∀ (_ : Nat), True) ∧ (dgs 16 fun (i : Nat) => intsC (SC.val (Go.Value.int Go.IntKind.u64 (dg ((vn 8 fun (i : Nat) => intsC (SC.val (Go.Value.int Go.IntKind.u64 (dg (a % M256) i)))) * vn 8 fun (i : Nat) => intsC (SC.val (Go.Value.int Go.IntKind.u64 (dg (b % M256) i)))) i)))) ∧ 16 ≤ 1000 ∧ x4 ≠ 0 ∧ (vn 16 fun (i : Nat) => dg ((vn 8 fun (i : Nat) => dg (a % M256) i) * vn 8 fun (i : Nat) => dg (b % M256) i) i) % x4 % M256 = x3 ∧ True) ∧ (((∀ (a_2 : Option Go.Addr) (cap : Nat), (a_2 = Option.none → 8 = 0 ∧ cap = 0) → 8 ≤ cap → (∀ (a_5 : Option Go.Addr) (cap : Nat), (a_5 = Option.none → 8 = 0 ∧ cap = 0) → 8 ≤ cap → ((∀ (_ : Nat), True) ∧ (∀ (_ : Nat), True) ∧ (dgs 8 fun (i : Nat) => intsC (SC.val (Go.Value.int Go.IntKind.u64 (dg (a % M256) i)))) ∧ 8 ≤ 1000 ∧ (dgs 8 fun (i : Nat) => intsC (SC.val (Go.Value.int Go.IntKind.u64 (dg (b % M256) i)))) ∧ 8 ≤ 1000 ∧ ∀ (a_8 : Option Go.Addr) (cap : Nat), (a_8 = Option.none → 16 = 0 ∧ cap = 0) → 16 ≤ cap → (∀ (_ : Nat), True) ∧ (dgs 16 fun (i : Nat) => intsC (SC.val (Go.Value.int Go.IntKind.u64 (dg ((vn 8 fun (i : Nat) => intsC (SC.val (Go.Value.int Go.IntKind.u64 (dg (a % M256) i)))) * vn 8 fun (i : Nat) => intsC (SC.val (Go.Value.int Go.IntKind.u64 (dg (b % M256) i)))) i)))) ∧ 16 ≤ 1000 ∧ x4 ≠ 0 ∧ (vn 16 fun (i : Nat) => dg ((vn 8 fun (i : Nat) => dg (a % M256) i) * vn 8 fun (i : Nat) => dg (b % M256) i) i) % x4 % M256 = x3 ∧ True) ∧ (∀ (_ : Nat), True) ∧ (∀ (_ : Nat), True) ∧ (dgs 8 fun (i : Nat) => intsC (SC.val (Go.Value.int Go.IntKind.u64 (dg (a % M256) i)))) ∧ 8 ≤ 1000 ∧ (dgs 8 fun (i : Nat) => intsC (SC.val (Go.Value.int Go.IntKind.u64 (dg (b % M256) i)))) ∧ 8 ≤ 1000 ∧ ∀ (a_8 : Option Go.Addr) (cap : Nat), (a_8 = Option.none → 16 = 0 ∧ cap = 0) → 16 ≤ cap → (∀ (_ : Nat), True) ∧ (dgs 16 fun (i : Nat) => intsC (SC.val (Go.Value.int Go.IntKind.u64 (dg ((vn 8 fun (i : Nat) => intsC (SC.val (Go.Value.int Go.IntKind.u64 (dg (a % M256) i)))) * vn 8 fun (i : Nat) => intsC (SC.val (Go.Value.int Go.IntKind.u64 (dg (b % M256) i)))) i)))) ∧ 16 ≤ 1000 ∧ x4 ≠ 0 ∧ (vn 16 fun (i : Nat) => dg ((vn 8 fun (i : Nat) => dg (a % M256) i) * vn 8 fun (i : Nat) => dg (b % M256) i) i) % x4 % M256 = x3 ∧ True) ∧ ∀ (a_5 : Option Go.Addr) (cap : Nat), (a_5 = Option.none → 8 = 0 ∧ cap = 0) → 8 ≤ cap → (∀ (_ : Nat), True) ∧ (∀ (_ : Nat), True) ∧ (dgs 8 fun (i : Nat) => intsC (SC.val (Go.Value.int Go.IntKind.u64 (dg (a % M256) i)))) ∧ 8 ≤ 1000 ∧ (dgs 8 fun (i : Nat) => intsC (SC.val (Go.Value.int Go.IntKind.u64 (dg (b % M256) i)))) ∧ 8 ≤ 1000 ∧ ∀ (a_8 : Option Go.Addr) (cap : Nat), (a_8 = Option.none → 16 = 0 ∧ cap = 0) → 16 ≤ cap → (∀ (_ : Nat), True) ∧ (dgs 16 fun (i : Nat) => intsC (SC.val (Go.Value.int Go.IntKind.u64 (dg ((vn 8 fun (i : Nat) => intsC (SC.val (Go.Value.int Go.IntKind.u64 (dg (a % M256) i)))) * vn 8 fun (i : Nat) => intsC (SC.val (Go.Value.int Go.IntKind.u64 (dg (b % M256) i)))) i)))) ∧ 16 ≤ 1000 ∧ x4 ≠ 0 ∧ (vn 16 fun (i : Nat) => dg ((vn 8 fun (i : Nat) => dg (a % M256) i) * vn 8 fun (i : Nat) => dg (b % M256) i) i) % x4 % M256 = x3 ∧ True) ∧ ∀ (a_2 : Option Go.Addr) (cap : Nat), (a_2 = Option.none → 8 = 0 ∧ cap = 0) → 8 ≤ cap → ∀ (a_5 : Option Go.Addr) (cap : Nat), (a_5 = Option.none → 8 = 0 ∧ cap = 0) → 8 ≤ cap → (∀ (_ : Nat), True) ∧ (∀ (_ : Nat), True) ∧ (dgs 8 fun (i : Nat) => intsC (SC.val (Go.Value.int Go.IntKind.u64 (dg (a % M256) i)))) ∧ 8 ≤ 1000 ∧ (dgs 8 fun (i : Nat) => intsC (SC.val (Go.Value.int Go.IntKind.u64 (dg (b % M256) i)))) ∧ 8 ≤ 1000 ∧ ∀ (a_8 : Option Go.Addr) (cap : Nat), (a_8 = Option.none → 16 = 0 ∧ cap = 0) → 16 ≤ cap → (∀ (_ : Nat), True) ∧ (dgs 16 fun (i : Nat) => intsC (SC.val (Go.Value.int Go.IntKind.u64 (dg ((vn 8 fun (i : Nat) => intsC (SC.val (Go.Value.int Go.IntKind.u64 (dg (a % M256) i)))) * vn 8 fun (i : Nat) => intsC (SC.val (Go.Value.int Go.IntKind.u64 (dg (b % M256) i)))) i)))) ∧ 16 ≤ 1000 ∧ x4 ≠ 0 ∧ (vn 16 fun (i : Nat) => dg ((vn 8 fun (i : Nat) => dg (a % M256) i) * vn 8 fun (i : Nat) => dg (b % M256) i) i) % x4 % M256 = x3 ∧ True) ∧ ∀ (a_2 : Option Go.Addr) (cap : Nat), (a_2 = Option.none → 8 = 0 ∧ cap = 0) → 8 ≤ cap → ∀ (a_5 : Option Go.Addr) (cap : Nat), (a_5 = Option.none → 8 = 0 ∧ cap = 0) → 8 ≤ cap → (∀ (_ : Nat), True) ∧ (∀ (_ : Nat), True) ∧ (dgs 8 fun (i : Nat) => intsC (SC.val (Go.Value.int Go.IntKind.u64 (dg (a % M256) i)))) ∧ 8 ≤ 1000 ∧ (dgs 8 fun (i : Nat) => intsC (SC.val (Go.Value.int Go.IntKind.u64 (dg (b % M256) i)))) ∧ 8 ≤ 1000 ∧ ∀ (a_8 : Option Go.Addr) (cap : Nat), (a_8 = Option.none → 16 = 0 ∧ cap = 0) → 16 ≤ cap → (∀ (_ : Nat), True) ∧ (dgs 16 fun (i : Nat) => intsC (SC.val (Go.Value.int Go.IntKind.u64 (dg ((vn 8 fun (i : Nat) => intsC (SC.val (Go.Value.int Go.IntKind.u64 (dg (a % M256) i)))) * vn 8 fun (i : Nat) => intsC (SC.val (Go.Value.int Go.IntKind.u64 (dg (b % M256) i)))) i)))) ∧ 16 ≤ 1000 ∧ x4 ≠ 0 ∧ (vn 16 fun (i : Nat) => dg ((vn 8 fun (i : Nat) => dg (a % M256) i) * vn 8 fun (i : Nat) => dg (b % M256) i) i) % x4 % M256 = x3 ∧ True) ∧ ((∀ (a_2 : Option Go.Addr) (cap : Nat), (a_2 = Option.none → 8 = 0 ∧ cap = 0) → 8 ≤ cap → ∀ (a_5 : Option Go.Addr) (cap : Nat), (a_5 = Option.none → 8 = 0 ∧ cap = 0) → 8 ≤ cap → (∀ (_ : Nat), True) ∧ (∀ (_ : Nat), True) ∧ (dgs 8 fun (i : Nat) => intsC (SC.val (Go.Value.int Go.IntKind.u64 (dg (a % M256) i)))) ∧ 8 ≤ 1000 ∧ (dgs 8 fun (i : Nat) => intsC (SC.val (Go.Value.int Go.IntKind.u64 (dg (b % M256) i)))) ∧ 8 ≤ 1000 ∧ ∀ (a_8 : Option Go.Addr) (cap : Nat), (a_8 = Option.none → 16 = 0 ∧ cap = 0) → 16 ≤ cap → (∀ (_ : Nat), True) ∧ (dgs 16 fun (i : Nat) => intsC (SC.val (Go.Value.int Go.IntKind.u64 (dg ((vn 8 fun (i : Nat) => intsC (SC.val (Go.Value.int Go.IntKind.u64 (dg (a % M256) i)))) * vn 8 fun (i : Nat) => intsC (SC.val (Go.Value.int Go.IntKind.u64 (dg (b % M256) i)))) i)))) ∧ 16 ≤ 1000 ∧ x4 ≠ 0 ∧ (vn 16 fun (i : Nat) => dg ((vn 8 fun (i : Nat) => dg (a % M256) i) * vn 8 fun (i : Nat) => dg (b % M256) i) i) % x4 % M256 = x3 ∧ True) ∧ ∀ (a_2 : Option Go.Addr) (cap : Nat), (a_2 = Option.none → 8 = 0 ∧ cap = 0) → 8 ≤ cap → ∀ (a_5 : Option Go.Addr) (cap : Nat), (a_5 = Option.none → 8 = 0 ∧ cap = 0) → 8 ≤ cap → (∀ (_ : Nat), True) ∧ (∀ (_ : Nat), True) ∧ (dgs 8 fun (i : Nat) => intsC (SC.val (Go.Value.int Go.IntKind.u64 (dg (a % M256) i)))) ∧ 8 ≤ 1000 ∧ (dgs 8 fun (i : Nat) => intsC (SC.val (Go.Value.int Go.IntKind.u64 (dg (b % M256) i)))) ∧ 8 ≤ 1000 ∧ ∀ (a_8 : Option Go.Addr) (cap : Nat), (a_8 = Option.none → 16 = 0 ∧ cap = 0) → 16 ≤ cap → (∀ (_ : Nat), True) ∧ (dgs 16 fun (i : Nat) => intsC (SC.val (Go.Value.int Go.IntKind.u64 (dg ((vn 8 fun (i : Nat) => intsC (SC.val (Go.Value.int Go.IntKind.u64 (dg (a % M256) i)))) * vn 8 fun (i : Nat) => intsC (SC.val (Go.Value.int Go.IntKind.u64 (dg (b % M256) i)))) i)))) ∧ 16 ≤ 1000 ∧ x4 ≠ 0 ∧ (vn 16 fun (i : Nat) => dg ((vn 8 fun (i : Nat) => dg (a % M256) i) * vn 8 fun (i : Nat) => dg (b % M256) i) i) % x4 % M256 = x3 ∧ True) ∧ ∀ (a_2 : Option Go.Addr) (cap : Nat), (a_2 = Option.none → 8 = 0 ∧ cap = 0) → 8 ≤ cap → ∀ (a_5 : Option Go.Addr) (cap : Nat), (a_5 = Option.none → 8 = 0 ∧ cap = 0) → 8 ≤ cap → (∀ (_ : Nat), True) ∧ (∀ (_ : Nat), True) ∧ (dgs 8 fun (i : Nat) => intsC (SC.val (Go.Value.int Go.IntKind.u64 (dg (a % M256) i)))) ∧ 8 ≤ 1000 ∧ (dgs 8 fun (i : Nat) => intsC (SC.val (Go.Value.int Go.IntKind.u64 (dg (b % M256) i)))) ∧ 8 ≤ 1000 ∧ ∀ (a_8 : Option Go.Addr) (cap : Nat), (a_8 = Option.none → 16 = 0 ∧ cap = 0) → 16 ≤ cap → (∀ (_ : Nat), True) ∧ (dgs 16 fun (i : Nat) => intsC (SC.val (Go.Value.int Go.IntKind.u64 (dg ((vn 8 fun (i : Nat) => intsC (SC.val (Go.Value.int Go.IntKind.u64 (dg (a % M256) i)))) * vn 8 fun (i : Nat) => intsC (SC.val (Go.Value.int Go.IntKind.u64 (dg (b % M256) i)))) i)))) ∧ 16 ≤ 1000 ∧ x4 ≠ 0 ∧ (vn 16 fun (i : Nat) => dg ((vn 8 fun (i : Nat) => dg (a % M256) i) * vn 8 fun (i : Nat) => dg (b % M256) i) i) % x4 % M256 = x3 ∧ True)) := by kernel_rfl
end Go.Proofs.Yteimeidpcgebkaa
end

section
namespace Go.Proofs.Yteimeidpcgebkaa
open Go Go.Sx Go.RowKit
theorem vn8 {X : Nat} (h : X < M256) : vn 8 (fun i => dg X i) = X := vn_dg' (n := 8) h
theorem vnk {k X : Nat} (h : X < 4294967296 ^ k) : vn k (fun i => dg X i) = X := vn_dg' h
theorem modM (a : Nat) : a % M256 < M256 := Nat.mod_lt _ (by decide)
theorem M9 : (4294967296 : Nat) ^ 9 = M256 * 4294967296 := rfl
theorem M16 : (4294967296 : Nat) ^ 16 = M256 * M256 := rfl
theorem ok_refOrd (a b : Nat) : OwesV Try.prog .none slAll [] 4 Try.f28 [sU a, sU b] (ordG a b) := by
 rw [vc_refOrd]
 intro x1 x2
 have h1 : x1 < M256 := modM a
 have h2 : x2 < M256 := modM b
 have T : ∀ i : Nat, True := fun _ => trivial
 have key : cmpI (vn 8 fun i => dg x1 i) (vn 8 fun i => dg x2 i) = cmpI x1 x2 := by rw [vn8 h1, vn8 h2]
 clear_value x1 x2
 repeat' (first | exact T | exact key | exact dgs_dg _ _ | exact (show (8 : Nat) ≤ 1000 by decide) | (intro _ _ _ _) | (refine And.intro ?_ ?_))
end Go.Proofs.Yteimeidpcgebkaa
end

section
namespace Go.Proofs.Yteimeidpcgebkaa
open Go Go.Sx Go.RowKit
theorem remL_lt {X Y n : Nat} (hX : X < 4294967296 ^ n) (hY : 0 < Y) : X % Y < 4294967296 ^ remL X Y n := by
 unfold remL
 have hm := Nat.mod_lt X hY
 by_cases h : Y < 4294967296
 ·rw [if_pos h]; omega
 ·rw [if_neg h]
  by_cases h0 : n = 0
  ·subst h0
   rw [if_pos rfl]
   have : X = 0 := by simpa using hX
   subst this
   rw [Nat.zero_mod]; decide
  ·rw [if_neg h0]
   obtain ⟨_, e⟩ := quo_digit (X := X) (k := 0) hY
   rw [Nat.pow_zero, Nat.div_one, Nat.zero_add, Nat.pow_one] at e
   have hr := dg_range X 0
   have hl := lenDg_lt (X / 4294967296 % Y)
   rw [e, Nat.add_comm 1, Nat.pow_succ]
   refine Nat.lt_of_le_of_lt (Nat.mod_le _ _) ?_
   have : (X / 4294967296 % Y + 1) * 4294967296 ≤ 4294967296 ^ lenDg (X / 4294967296 % Y) * 4294967296 := Nat.mul_le_mul_right _ hl
   omega
theorem remL_le {X Y n : Nat} (hY : 0 < Y) (hYM : Y < M256) : remL X Y n ≤ 9 := by
 unfold remL
 split
 ·decide
 ·split
  ·decide
  ·have : lenDg (X / 4294967296 % Y) ≤ 8 := lenDg_le (Nat.lt_trans (Nat.mod_lt _ hY) hYM)
   omega
theorem eq0_conj {x : Nat} : conj [x == 0] = (x == 0) := by simp [conj]
theorem ok_refQuo (a b : Nat) : OwesV Try.prog .none slAll [] 4 Try.f32 [sU a, sU b] (.tup [sU (if b % M256 = 0 then 0 else a % M256 / (b % M256)), sU (if b % M256 = 0 then 0 else a % M256 % (b % M256)), sI .i64 (if b % M256 = 0 then 7 else 0)]) := by
 obtain ⟨q, hq⟩ : ∃ q, q = (if b % M256 = 0 then 0 else a % M256 / (b % M256)) := ⟨_, rfl⟩
 obtain ⟨s, hs⟩ : ∃ s, s = (if b % M256 = 0 then 0 else a % M256 % (b % M256)) := ⟨_, rfl⟩
 obtain ⟨e, he⟩ : ∃ e : Int, e = (if b % M256 = 0 then 7 else 0) := ⟨_, rfl⟩
 rw [← hq, ← hs, ← he, vc_refQuo _ _ (.tup [])]
 intro x1 x2 x3 x4 x5 x6 x7 x8
 have hb : x1 < M256 := modM b
 have ha : a % M256 < M256 := modM a
 have E1 : x1 = b % M256 := rfl
 have E4 : x4 = x1 := vn8 hb
 have E5 : x5 = a % M256 := vn8 ha
 have E7 : x7 = a % M256 := vn8 ha
 have E8 : x8 = x1 := vn8 hb
 have E6 : x6 = remL x5 x4 8 := rfl
 have T : ∀ i : Nat, True := fun _ => trivial
 have hM : 0 < M256 := by decide
 have K0 : conj [x1 == 0] = true → ((0 = x2 ∧ True) ∧ (0 = x3 ∧ True) ∧ (7 : Int) = e) := fun h => by
  rw [eq0_conj] at h
  have h := eq_of_beq h
  rw [← E1, if_pos h] at hq hs he
  have e2 : x2 = q % M256 := rfl
  have e3 : x3 = s % M256 := rfl
  rw [e2, e3, hq, hs, he, Nat.zero_mod]
  exact ⟨⟨rfl, trivial⟩, ⟨rfl, trivial⟩, rfl⟩
 have N0 : conj [x1 == 0] = false → x1 ≠ 0 := fun h => by
  rw [eq0_conj] at h
  exact ne_of_beq_false h
 have K1 : conj [x1 == 0] = false → x4 ≠ 0 := fun h => by rw [E4]; exact N0 h
 have K2 : conj [x1 == 0] = false → x6 ≤ 1000 := fun h => by
  have h := N0 h
  have := remL_le (X := x5) (n := 8) (show 0 < x4 by omega) (by omega)
  omega
 have F : conj [x1 == 0] = false → ((vn 8 fun i => dg (x5 / x4) i) % M256 % M256 = x2 ∧ True) ∧ ((vn x6 fun i => dg (x5 % x4) i) % M256 % M256 = x3 ∧ True) ∧ (0 : Int) = e := fun h => by
  have h := N0 h
  rw [← E1, if_neg h] at hq hs he
  have e2 : x2 = q % M256 := rfl
  have e3 : x3 = s % M256 := rfl
  have hx5 : x5 < 4294967296 ^ 8 := by rw [E5]; exact ha
  rw [e2, e3, he, E6, vnk (remL_lt hx5 (by omega)), vn8 (Nat.lt_of_le_of_lt (Nat.div_le_self _ _) (by omega)), hq, hs, E4, E5, Nat.mod_mod, Nat.mod_mod]
  exact ⟨⟨rfl, trivial⟩, ⟨rfl, trivial⟩, rfl⟩
 clear N0 E1 E4 E5 E7 E8 E6 hq hs he hM
 clear_value x1 x2 x3 x4 x5 x6 x7 x8
 repeat' (first | exact T | exact K0 (by assumption) | exact K1 (by assumption) | exact K2 (by assumption) | exact F (by assumption) | exact dgs_dg _ _ | exact (show (8 : Nat) ≤ 1000 by decide) | exact (show (8 : Nat) ≤ 900 by decide) | (intro _ _ _ _) | (refine And.intro ?_ ?_) | (intro _))
theorem ok_refRest (a : Option Addr) (n c : Nat) (f : Nat → Int) (m : Nat) (hf : dgs n f) (hn : n ≤ 1000) (hm : m % M256 ≠ 0) : OwesR Try.prog .none slAll [] 4 Try.f53 [xsI a n c .u64 f, sU m] false (restUR n f m) := by
 rw [vc_refRest]
 intro x1 x2 x3 x4 x5
 have hb : x1 < M256 := modM m
 have E2 : x2 = x1 := vn8 hb
 have E3 : x3 = remL (vn n f) x2 n := rfl
 have T : ∀ i : Nat, True := fun _ => trivial
 have hx : x1 ≠ 0 := hm
 have K1 : x2 ≠ 0 := by rw [E2]; exact hx
 have K2 : x3 ≤ 1000 := by
  have := remL_le (X := vn n f) (n := n) (show 0 < x2 by omega) (by omega)
  omega
 have F : (vn x3 fun i => dg ((vn n fun i => f i) % x2) i) % M256 % M256 = vn n f % x1 % M256 ∧ True := by
  rw [E3, show (fun i => f i) = f from rfl, vnk (remL_lt (vn_lt hf) (by omega)), E2, Nat.mod_mod]
  exact ⟨rfl, trivial⟩
 clear E2 E3
 clear_value x1 x2 x3 x4 x5
 repeat' (first | exact T | exact K1 | exact K2 | exact F | exact hf | exact hn | exact dgs_dg _ _ | exact (show (8 : Nat) ≤ 1000 by decide) | exact (show (8 : Nat) ≤ 900 by decide) | (intro _ _ _ _) | (refine And.intro ?_ ?_) | (intro _))
theorem card_refRest : FnOKs Try.prog [] 53 (specDU restUC restUR) :=
 FnOKs_DU (iv := fun _ _ _ _ _ => []) cx_none sl_all Try.func53 (by kernel_rfl) (by kernel_rfl) (fun _ _ _ x hx => by simp only [restUR, List.mem_singleton] at hx; subst hx; exact bnd_Un _) fun a n c f m ⟨h1, h2, h3, _⟩ => ok_refRest a n c f m h1 h2 h3
theorem sl_rest : ∀ p ∈ slRest, FnOKs Try.prog [] p.1 p.2 := fun p hp => by
 rcases List.mem_cons.1 hp with rfl | hp
 ·exact card_refRest
 ·exact sl_all p hp
theorem ok_refOpp (a m : Nat) (h : a % M256 ≤ m % M256) : OwesV Try.prog .none slAll [] 4 Try.f35 [sU a, sU m] (oppG a m) := by
 unfold oppG
 obtain ⟨r, hr⟩ : ∃ r, r = (if a % M256 = 0 then 0 else m % M256 - a % M256) := ⟨_, rfl⟩
 rw [← hr, vc_refOpp]
 intro x1 x2 x3 x4
 have h1 : x1 < M256 := modM a
 have h2 : m % M256 < M256 := modM m
 have E1 : x1 = a % M256 := rfl
 have E2 : x2 = r % M256 := rfl
 have E3 : x3 = x1 := vn8 h1
 have E4 : x4 = m % M256 := vn8 h2
 have T : ∀ i : Nat, True := fun _ => trivial
 have hM : 0 < M256 := by decide
 have K0 : conj [x1 == 0] = true → x1 = x2 ∧ True := fun h => by
  rw [eq0_conj] at h
  have h := eq_of_beq h
  rw [← E1, if_pos h] at hr
  rw [E2, hr, h, Nat.zero_mod]
  exact ⟨rfl, trivial⟩
 have K1 : x3 ≤ x4 := by rw [E3, E4, E1]; exact h
 have F : conj [x1 == 0] = false → (vn 8 fun i => dg (x4 - x3) i) % M256 % M256 = x2 ∧ True := fun h => by
  rw [eq0_conj] at h
  have h := ne_of_beq_false h
  rw [← E1, if_neg h] at hr
  rw [vn8 (by omega), E2, hr, E4, E3, Nat.mod_mod]
  exact ⟨rfl, trivial⟩
 clear E1 E2 E3 E4 hr h hM
 clear_value x1 x2 x3 x4
 repeat' (first | exact T | exact K0 (by assumption) | exact K1 | exact F (by assumption) | exact dgs_dg _ _ | exact (show (8 : Nat) ≤ 1000 by decide) | (intro _ _ _ _) | (refine And.intro ?_ ?_) | (intro _))
end Go.Proofs.Yteimeidpcgebkaa
end

section
namespace Go.Proofs.Yteimeidpcgebkaa
open Go Go.Sx Go.RowKit
theorem ok_refTot (a b m : Nat) (hm : m % M256 ≠ 0) : OwesV Try.prog .none slRest [] 4 Try.f40 [sU a, sU b, sU m] (totG a b m) := by
 rw [vc_refTot]
 intro x1 x2 x3
 have h1 : x1 < M256 := modM a
 have h2 : x2 < M256 := modM b
 have T : ∀ i : Nat, True := fun _ => trivial
 have K : x3 ≠ 0 := hm
 have F : (vn 9 fun i => dg ((vn 8 fun i => dg x1 i) + vn 8 fun i => dg x2 i) i) % x3 % M256 = (x1 + x2) % x3 % M256 ∧ True := by
  rw [vn8 h1, vn8 h2, vnk (by rw [M9]; omega)]
  exact ⟨rfl, trivial⟩
 clear_value x1 x2 x3
 repeat' (first | exact T | exact K | exact F | exact dgs_dg _ _ | exact (show (8 : Nat) ≤ 1000 by decide) | exact (show (9 : Nat) ≤ 1000 by decide) | (intro _ _ _ _) | (refine And.intro ?_ ?_))
theorem or_zero {a b c : Int} (ha : 0 ≤ a ∧ a < 18446744073709551616) (hb : 0 ≤ b ∧ b < 18446744073709551616) (hc : 0 ≤ c ∧ c < 18446744073709551616)
  (h : (IntKind.u64.wrap (↑(BitVec.ofInt 64 (IntKind.u64.wrap (↑(BitVec.ofInt 64 a ||| BitVec.ofInt 64 b).toNat)) ||| BitVec.ofInt 64 c).toNat) == 0) = true) : a = 0 ∧ b = 0 ∧ c = 0 := by
 have h := eq_of_beq h
 have l : ∀ x : BitVec 64, IntKind.u64.wrap (x.toNat : Int) = (x.toNat : Int) := fun x => wrap64 ⟨Int.natCast_nonneg _, by have := x.isLt; omega⟩
 have e : ∀ x : BitVec 64, BitVec.ofInt 64 (x.toNat : Int) = x := fun x => by
  apply BitVec.eq_of_toNat_eq
  rw [BitVec.toNat_ofInt]
  have := x.isLt
  omega
 rw [l, l, e] at h
 have h : (BitVec.ofInt 64 a ||| BitVec.ofInt 64 b) ||| BitVec.ofInt 64 c = 0#64 := by
  apply BitVec.eq_of_toNat_eq
  show _ = 0
  omega
 rw [BitVec.or_eq_zero_iff, BitVec.or_eq_zero_iff] at h
 have z : ∀ y : Int, 0 ≤ y ∧ y < 18446744073709551616 → BitVec.ofInt 64 y = 0#64 → y = 0 := fun y hy h => by
  have := congrArg BitVec.toNat h
  rw [BitVec.toNat_ofInt] at this
  simp at this
  omega
 exact ⟨z a ha h.1.1, z b hb h.1.2, z c hc h.2⟩
theorem limb_range (a i : Nat) : 0 ≤ limb a i ∧ limb a i < 18446744073709551616 := ⟨limb_nonneg a i, limb_lt a i⟩
theorem small_modD {m : Nat} (h1 : limb m 1 = 0) (h2 : limb m 2 = 0) (h3 : limb m 3 = 0) : ((m % M256 : Nat) : Int) = limb m 0 := by
 have := join_limbs m
 rw [h1, h2, h3] at this
 unfold join at this
 have r := limb_range m 0
 omega
theorem small_limb {a : Nat} (h : a % M256 < 18446744073709551616) : limb a 0 = ((a % M256 : Nat) : Int) := by
 have := join_limbs a
 unfold join at this
 have r0 := limb_range a 0
 have r1 := limb_range a 1
 have r2 := limb_range a 2
 have r3 := limb_range a 3
 omega
theorem ok_refPro (a b m : Nat) (hm : m % M256 ≠ 0) (ha : a % M256 < m % M256) (hb : b % M256 < m % M256) : OwesV Try.prog .none slRest [] 4 Try.f41 [sU a, sU b, sU m] (proG a b m) := by
 unfold proG
 rw [vc_refPro]
 intro x1 x2 x3 x4
 have h1 := modM a
 have h2 := modM b
 have E3 : x3 = a % M256 * (b % M256) % (m % M256) % M256 := rfl
 have E4 : x4 = m % M256 := rfl
 have E1 : x1 = (IntKind.u64.wrap (↑(BitVec.ofInt 64 (IntKind.u64.wrap (↑(BitVec.ofInt 64 (limb m 1) ||| BitVec.ofInt 64 (limb m 2)).toNat)) ||| BitVec.ofInt 64 (limb m 3)).toNat) == 0) := rfl
 have E2 : x2 = (IntKind.u64.wrap (limb a 0 * limb b 0)).tmod (limb m 0) := rfl
 have T : ∀ i : Nat, True := fun _ => trivial
 have K : x4 ≠ 0 := hm
 have Z : (0 : Int) ≤ 0 ∧ (0 : Int) < 18446744073709551616 := by decide
 have F : (vn 16 fun i => dg ((vn 8 fun i => dg (a % M256) i) * vn 8 fun i => dg (b % M256) i) i) % x4 % M256 = x3 ∧ True := by
  rw [vn8 h1, vn8 h2, vnk (by rw [M16]; exact Nat.lt_of_le_of_lt (Nat.mul_le_mul (Nat.le_of_lt h1) (Nat.le_refl _)) (Nat.mul_lt_mul_of_pos_left h2 (by decide))), E3, E4]
  exact ⟨rfl, trivial⟩
 have S : (x1 && decide (limb m 0 < 4294967296)) = true → limb m 0 ≠ 0 ∧ (0 ≤ x2 ∧ x2 < 18446744073709551616) ∧ join x2 0 0 0 % M256 = x3 ∧ True := fun h => by
  rw [Bool.and_eq_true] at h
  obtain ⟨e1, e2⟩ := h
  rw [E1] at e1
  have e2 := of_decide_eq_true e2
  obtain ⟨z1, z2, z3⟩ := or_zero (limb_range m 1) (limb_range m 2) (limb_range m 3) e1
  have em := small_modD z1 z2 z3
  have hA : a % M256 < 4294967296 := by omega
  have hB : b % M256 < 4294967296 := by omega
  have eA := small_limb (a := a) (by omega)
  have eB := small_limb (a := b) (by omega)
  have hp : a % M256 * (b % M256) < 18446744073709551616 := Nat.lt_of_le_of_lt (Nat.mul_le_mul (show a % M256 ≤ 4294967295 by omega) (show b % M256 ≤ 4294967295 by omega)) (by decide)
  have e3 : x2 = ((a % M256 * (b % M256) % (m % M256) : Nat) : Int) := by
   rw [E2, eA, eB, ← em, ← Int.natCast_mul, wrap64 ⟨Int.natCast_nonneg _, by omega⟩, Int.tmod_eq_emod_of_nonneg (Int.natCast_nonneg _)]
   exact (Int.natCast_emod _ _).symm
  have hlt : a % M256 * (b % M256) % (m % M256) < m % M256 := Nat.mod_lt _ (by omega)
  refine ⟨by omega, by omega, ?_, trivial⟩
  rw [E3]
  have : join x2 0 0 0 = a % M256 * (b % M256) % (m % M256) := by
   unfold join
   rw [e3, Int.toNat_natCast]
   rfl
  rw [this]
 clear E1 E2 E3 E4 ha hb h1 h2
 clear_value x1 x2 x3 x4
 refine ⟨id, id, id, fun h => ⟨(S h).1, (S h).2.1, Z, Z, Z, (S h).2.2⟩, fun _ => ?_⟩
 repeat' (first | exact T | exact K | exact F | exact dgs_dg _ _ | exact (show (8 : Nat) ≤ 1000 by decide) | exact (show (16 : Nat) ≤ 1000 by decide) | (intro _ _ _ _) | (refine And.intro ?_ ?_))
def quoG (a b : Nat) : SV := .tup [sU (if b % M256 = 0 then 0 else a % M256 / (b % M256)), sU (if b % M256 = 0 then 0 else a % M256 % (b % M256)), sI .i64 (if b % M256 = 0 then 7 else 0)]
theorem card_refQuo : FnOK Try.prog 32 (specUU quoG) :=
 FnOKV_UU (iv := fun _ _ => []) cx_none sl_all Try.func32 (by kernel_rfl) (by kernel_rfl) (fun a b x hx => by
  simp only [List.mem_cons, List.not_mem_nil, or_false] at hx
  rcases hx with rfl | rfl | rfl
  ·exact bnd_Un _
  ·exact bnd_Un _
  ·trivial) ok_refQuo
theorem card_refOrd : FnOK Try.prog 28 (specUU ordG) :=
 FnOKV_UU (iv := fun _ _ => []) cx_none sl_all Try.func28 (by kernel_rfl) (by kernel_rfl) (fun a b => trivial) ok_refOrd
theorem card_refTot : FnOK Try.prog 40 (specUUU modC totG) :=
 FnOKV_UUU (iv := fun _ _ _ => []) cx_none sl_rest Try.func40 (by kernel_rfl) (by kernel_rfl) (fun _ _ _ => bnd_Un _) fun a b m ⟨h, _⟩ => ok_refTot a b m h
theorem card_refOpp : FnOK Try.prog 35 (specUUC oppC oppG) :=
 FnOKV_UUC (iv := fun _ _ => []) cx_none sl_all Try.func35 (by kernel_rfl) (by kernel_rfl) (fun _ _ => bnd_Un _) fun a m ⟨h, _⟩ => ok_refOpp a m h
theorem card_refPro : FnOK Try.prog 41 (specUUU proC proG) :=
 FnOKV_UUU (iv := fun _ _ _ => []) cx_none sl_rest Try.func41 (by kernel_rfl) (by kernel_rfl) (fun _ _ _ => bnd_Un _) fun a b m ⟨h1, h2, h3, _⟩ => ok_refPro a b m h1 h2 h3
end Go.Proofs.Yteimeidpcgebkaa
end

section
namespace Go.Proofs.Yteimeidpcgebkaa
open Go Go.Sx Go.RowKit
set_option maxRecDepth 100000
end Go.Proofs.Yteimeidpcgebkaa
end

section
namespace Go.Proofs.Yteimeidpcgebkaa
open Go Go.Sx Go.RowKit
end Go.Proofs.Yteimeidpcgebkaa
end

section
namespace Go.Proofs.Yteimeidpcgebkaa
open Go Go.Sx Go.RowKit
set_option maxRecDepth 100000
end Go.Proofs.Yteimeidpcgebkaa
end

section
namespace Go.Proofs.Yteimeidpcgebkaa
open Go Go.Sx Go.RowKit
end Go.Proofs.Yteimeidpcgebkaa
end

section
namespace Go.Proofs.Yteimeidpcgebkaa
open Go Go.Sx Go.RowKit
set_option maxRecDepth 100000
def u4z : List SK := List.replicate 4 (.c (.num .u64 0))
def invRPo (a x m : Nat) (A O : Nat → Nat) : Inv where
 X := Nat
 tm y := slotsAt 37 [(3, .one (.sc (.ptr 0 0))), (4, .one (.sc (.ptr 1 0))), (5, .one (.sc (.ptr 2 0))), (6, .one (.sc (.ptr 3 0))), (7, .one (.sc (.ptr 5 0))), (14, .one (sU x)), (15, .one (sI .i64 (y : Int)))]
 ob y := [.cells 24 [.u (A (64 * y))] 0, .cells 24 [.u x] 0, .cells 24 [.u m] 0, .cells 24 u4z 0, .dead, .cells 24 [.u (O (64 * y))] 0]
 holds y := y ≤ 4
 less y := 4 - y
def invRPi (a x m : Nat) (A O : Nat → Nat) : Inv where
 X := Nat × Nat
 tm y := slotsAt 37 [(3, .one (.sc (.ptr 0 0))), (4, .one (.sc (.ptr 1 0))), (5, .one (.sc (.ptr 2 0))), (6, .one (.sc (.ptr 3 0))), (7, .one (.sc (.ptr 5 0))), (9, .one (sI .u64 (limb x y.1))), (10, .one (sI .i64 (y.2 : Int))), (14, .one (sU x)), (15, .one (sI .i64 (y.1 : Int)))]
 ob y := [.cells 24 [.u (A (64 * y.1 + y.2))] 0, .cells 24 [.u x] 0, .cells 24 [.u m] 0, .cells 24 u4z 0, .dead, .cells 24 [.u (O (64 * y.1 + y.2))] 0]
 holds y := y.1 < 4 ∧ y.2 ≤ 64
 less y := 64 - y.2
def rpoC (a _ m : Nat) : List Prop := [m % M256 ≠ 0, a % M256 < m % M256]
def rpoG (a x m : Nat) : SV := .one (sU ((a % M256) ^ (x % M256) % (m % M256)))
def cxRPo : Cx := [(41, specUUU proC proG)]
theorem vc_refPower (a x m : Nat) (A O : Nat → Nat) (r : Nat) :
  OwesV Try.prog cxRPo slRest [(3, .inv (invRPo a x m A O)), (6, .invR (invRPi a x m A O) (fun y z => z.1 = y.1))] 4 Try.f33 [sU a, sU x, sU m] (.one (sU r)) =
  (let x1 : Nat := m % M256; let x2 : Nat := x % M256; 1 ≤ 1 ∧ ∀ (a_1 : Go.Addr), (∀ (i : Nat), True) ∧ (dgs 1 fun (i : Nat) => intsC (SC.val (Go.Value.int (Go.IntKind.u64, (1 : Int)).fst (selG [SK.c (SC.num Go.IntKind.u64 (1 : Int))] i)))) ∧ 1 ≤ 1000 ∧ x1 ≠ 0 ∧ (∀ (y : Nat), closedB (slotsAt 37 [(3, SV.one (SA.sc (SC.ptr 0 0))), (4, SV.one (SA.sc (SC.ptr 1 0))), (5, SV.one (SA.sc (SC.ptr 2 0))), (6, SV.one (SA.sc (SC.ptr 3 0))), (7, SV.one (SA.sc (SC.ptr 5 0))), (14, SV.one (sU x)), (15, SV.one (sI Go.IntKind.i64 (↑y : Int)))]) [SO.cells (24 : Go.TypeId) [SK.u (A (64 * y))] 0, SO.cells (24 : Go.TypeId) [SK.u x] 0, SO.cells (24 : Go.TypeId) [SK.u m] 0, SO.cells (24 : Go.TypeId) u4z 0, SO.dead, SO.cells (24 : Go.TypeId) [SK.u (O (64 * y))] 0] = Bool.true) ∧ ∃ (y : Nat), y ≤ 4 ∧ x2 = x2 ∧ (0 : Int) = (↑y : Int) ∧ a % M256 = A (64 * y) % M256 ∧ 0 = 0 ∧ x2 = x2 ∧ 0 = 0 ∧ x1 = x1 ∧ 0 = 0 ∧ 0 = 0 ∧ 1 % x1 % M256 = O (64 * y) % M256 ∧ 0 = 0 ∧ ∀ (y : Nat), y ≤ 4 → (Decidable.decide ((↑y : Int) < (4 : Int)) = Bool.true → ((0 : Int) ≤ (↑y : Int) ∧ (↑y : Int) < (4 : Int)) ∧ (∀ (y : Nat × Nat), closedB (slotsAt 37 [(3, SV.one (SA.sc (SC.ptr 0 0))), (4, SV.one (SA.sc (SC.ptr 1 0))), (5, SV.one (SA.sc (SC.ptr 2 0))), (6, SV.one (SA.sc (SC.ptr 3 0))), (7, SV.one (SA.sc (SC.ptr 5 0))), (9, SV.one (sI Go.IntKind.u64 (limb x y.fst))), (10, SV.one (sI Go.IntKind.i64 (↑y.snd : Int))), (14, SV.one (sU x)), (15, SV.one (sI Go.IntKind.i64 (↑y.fst : Int)))]) [SO.cells (24 : Go.TypeId) [SK.u (A (64 * y.fst + y.snd))] 0, SO.cells (24 : Go.TypeId) [SK.u x] 0, SO.cells (24 : Go.TypeId) [SK.u m] 0, SO.cells (24 : Go.TypeId) u4z 0, SO.dead, SO.cells (24 : Go.TypeId) [SK.u (O (64 * y.fst + y.snd))] 0] = Bool.true) ∧ ∃ (y0 : Nat × Nat), ((y0.fst < 4 ∧ y0.snd ≤ 64) ∧ y0.fst = y0.fst) ∧ limb x (↑y : Int).toNat = limb x y0.fst ∧ (0 : Int) = (↑y0.snd : Int) ∧ x2 = x2 ∧ (↑y : Int) = (↑y0.fst : Int) ∧ A (64 * y) % M256 = A (64 * y0.fst + y0.snd) % M256 ∧ 0 = 0 ∧ x2 = x2 ∧ 0 = 0 ∧ x1 = x1 ∧ 0 = 0 ∧ 0 = 0 ∧ O (64 * y) % M256 = O (64 * y0.fst + y0.snd) % M256 ∧ 0 = 0 ∧ ∀ (y_1 : Nat × Nat), y_1.fst < 4 ∧ y_1.snd ≤ 64 → y_1.fst = y0.fst → (Decidable.decide ((↑y_1.snd : Int) < (64 : Int)) = Bool.true → (0 : Int) ≤ (↑y_1.snd : Int) ∧ ((Go.IntKind.u64.wrap (↑(BitVec.ofInt 64 ((limb x y_1.fst).fdiv ((2 : Int) ^ Min.min (↑y_1.snd : Int).toNat 64)) &&& BitVec.ofInt 64 (1 : Int)).toNat : Int) == (1 : Int)) = Bool.true → x1 ≠ 0 ∧ O (64 * y_1.fst + y_1.snd) % M256 < x1 ∧ A (64 * y_1.fst + y_1.snd) % M256 < x1 ∧ x1 ≠ 0 ∧ A (64 * y_1.fst + y_1.snd) % M256 < x1 ∧ A (64 * y_1.fst + y_1.snd) % M256 < x1 ∧ ∃ (y' : Nat × Nat), ((y'.fst < 4 ∧ y'.snd ≤ 64) ∧ y'.fst = y0.fst) ∧ limb x y_1.fst = limb x y'.fst ∧ Go.IntKind.i64.wrap ((↑y_1.snd : Int) + (1 : Int)) = (↑y'.snd : Int) ∧ x2 = x2 ∧ (↑y_1.fst : Int) = (↑y'.fst : Int) ∧ A (64 * y_1.fst + y_1.snd) % M256 * (A (64 * y_1.fst + y_1.snd) % M256) % x1 % M256 = A (64 * y'.fst + y'.snd) % M256 ∧ 0 = 0 ∧ x2 = x2 ∧ 0 = 0 ∧ x1 = x1 ∧ 0 = 0 ∧ 0 = 0 ∧ O (64 * y_1.fst + y_1.snd) % M256 * (A (64 * y_1.fst + y_1.snd) % M256) % x1 % M256 = O (64 * y'.fst + y'.snd) % M256 ∧ 0 = 0 ∧ 64 - y'.snd < 64 - y_1.snd) ∧ ((Go.IntKind.u64.wrap (↑(BitVec.ofInt 64 ((limb x y_1.fst).fdiv ((2 : Int) ^ Min.min (↑y_1.snd : Int).toNat 64)) &&& BitVec.ofInt 64 (1 : Int)).toNat : Int) == (1 : Int)) = Bool.false → x1 ≠ 0 ∧ A (64 * y_1.fst + y_1.snd) % M256 < x1 ∧ A (64 * y_1.fst + y_1.snd) % M256 < x1 ∧ ∃ (y' : Nat × Nat), ((y'.fst < 4 ∧ y'.snd ≤ 64) ∧ y'.fst = y0.fst) ∧ limb x y_1.fst = limb x y'.fst ∧ Go.IntKind.i64.wrap ((↑y_1.snd : Int) + (1 : Int)) = (↑y'.snd : Int) ∧ x2 = x2 ∧ (↑y_1.fst : Int) = (↑y'.fst : Int) ∧ A (64 * y_1.fst + y_1.snd) % M256 * (A (64 * y_1.fst + y_1.snd) % M256) % x1 % M256 = A (64 * y'.fst + y'.snd) % M256 ∧ 0 = 0 ∧ x2 = x2 ∧ 0 = 0 ∧ x1 = x1 ∧ 0 = 0 ∧ 0 = 0 ∧ O (64 * y_1.fst + y_1.snd) % M256 = O (64 * y'.fst + y'.snd) % M256 ∧ 0 = 0 ∧ 64 - y'.snd < 64 - y_1.snd)) ∧ (Decidable.decide ((↑y_1.snd : Int) < (64 : Int)) = Bool.false → ∃ (y' : Nat), y' ≤ 4 ∧ x2 = x2 ∧ Go.IntKind.i64.wrap ((↑y_1.fst : Int) + (1 : Int)) = (↑y' : Int) ∧ A (64 * y_1.fst + y_1.snd) % M256 = A (64 * y') % M256 ∧ 0 = 0 ∧ x2 = x2 ∧ 0 = 0 ∧ x1 = x1 ∧ 0 = 0 ∧ 0 = 0 ∧ O (64 * y_1.fst + y_1.snd) % M256 = O (64 * y') % M256 ∧ 0 = 0 ∧ 4 - y' < 4 - y)) ∧ (Decidable.decide ((↑y : Int) < (4 : Int)) = Bool.false → O (64 * y) % M256 = r % M256 ∧ True)) := by kernel_rfl
end Go.Proofs.Yteimeidpcgebkaa
end

section
namespace Go.Proofs.Yteimeidpcgebkaa
open Go Go.Sx Go.RowKit
theorem mod2_succ (x j : Nat) : x % 2 ^ (j + 1) = x % 2 ^ j + 2 ^ j * (x.testBit j).toNat := by rw [Nat.mod_pow_succ, Nat.toNat_testBit]
def pwA (a m j : Nat) : Nat := a ^ (2 ^ j) % m
def pwO (a x m j : Nat) : Nat := a ^ (x % 2 ^ j) % m
theorem pwA_step (a m j : Nat) : pwA a m j * pwA a m j % m = pwA a m (j + 1) := by
 unfold pwA
 rw [← Nat.mul_mod, ← Nat.pow_add, Nat.pow_succ 2 j]
 exact congrArg (fun v => a ^ v % m) (by omega)
theorem pwO_one {a x m j : Nat} (h : x.testBit j = true) : pwO a x m j * pwA a m j % m = pwO a x m (j + 1) := by
 unfold pwO pwA
 rw [← Nat.mul_mod, ← Nat.pow_add, mod2_succ, h]
 exact congrArg (fun v => a ^ v % m) (by simp)
theorem pwO_zero {a x m j : Nat} (h : x.testBit j = false) : pwO a x m j = pwO a x m (j + 1) := by
 unfold pwO
 rw [mod2_succ, h]
 exact congrArg (fun v => a ^ v % m) (by simp)
theorem ok_refPower (a x m : Nat) (hm : m % M256 ≠ 0) (ha : a % M256 < m % M256) :
  OwesV Try.prog cxRPo slRest [(3, .inv (invRPo a x m (pwA (a % M256) (m % M256)) (pwO (a % M256) (x % M256) (m % M256)))), (6, .invR (invRPi a x m (pwA (a % M256) (m % M256)) (pwO (a % M256) (x % M256) (m % M256))) (fun y z => z.1 = y.1))] 4 Try.f33 [sU a, sU x, sU m] (rpoG a x m) := by
 unfold rpoG
 rw [vc_refPower]
 have hbit := fun j hj => limb_bit x j hj
 have hxM := modM x
 have hmM := modM m
 have M0 : 0 < M256 := by decide
 intro x1 x2
 have E1 : x1 = m % M256 := rfl
 have E2 : x2 = x % M256 := rfl
 rw [← E1] at hm ha hmM
 rw [← E2] at hxM
 simp only [← E2] at hbit
 rw [← E1, ← E2]
 clear_value x1 x2
 generalize a % M256 = a' at *
 have hpos : 0 < x1 := by omega
 have hlt : ∀ v : Nat, v % x1 < M256 := fun v => Nat.lt_trans (Nat.mod_lt v hpos) hmM
 have hmm : ∀ v : Nat, v % x1 % M256 = v % x1 := fun v => Nat.mod_eq_of_lt (hlt v)
 have hA : ∀ j, pwA a' x1 j % M256 = pwA a' x1 j := fun j => hmm _
 have hO : ∀ j, pwO a' x2 x1 j % M256 = pwO a' x2 x1 j := fun j => hmm _
 have lA : ∀ j, pwA a' x1 j < x1 := fun j => Nat.mod_lt _ hpos
 have lO : ∀ j, pwO a' x2 x1 j < x1 := fun j => Nat.mod_lt _ hpos
 refine ⟨Nat.le_refl _, fun _ => ⟨fun _ => trivial, ⟨fun i hi => ?_⟩, by decide, hm, fun _ => rfl, 0, by decide, rfl, rfl, ?_, rfl, rfl, rfl, rfl, rfl, rfl, ?_, rfl, fun w hw => ⟨fun h1 => ⟨⟨by omega, of_decide_eq_true h1⟩, fun _ => rfl, (w, 0), ⟨⟨?_, by show 0 ≤ 64; omega⟩, rfl⟩, by rw [Int.toNat_natCast], rfl, rfl, rfl, rfl, rfl, rfl, rfl, rfl, rfl, rfl, rfl, rfl, fun ⟨w', i⟩ ⟨hw', hi⟩ e => ⟨fun h2 => ⟨by omega, fun h3 => ?_, fun h3 => ?_⟩, fun h2 => ?_⟩⟩, fun h1 => ?_⟩⟩⟩
 ·have : i = 0 := by omega
  subst this
  exact ⟨by decide, by decide⟩
 ·show a' = pwA a' x1 (64 * 0) % M256
  rw [hA]
  unfold pwA
  rw [Nat.mul_zero, Nat.pow_zero, Nat.pow_one, Nat.mod_eq_of_lt ha]
 ·show 1 % x1 % M256 = pwO a' x2 x1 (64 * 0) % M256
  rw [hO, hmm]
  unfold pwO
  rw [Nat.mul_zero, Nat.pow_zero, Nat.mod_one, Nat.pow_zero]
 ·have h1 : (w : Int) < 4 := of_decide_eq_true h1
  show w < 4; omega
 ·have e : w' = w := e
  subst e
  have hw' : w' < 4 := hw'
  have h2 : (i : Int) < 64 := of_decide_eq_true h2
  have hb := hbit (64 * w' + i) (by omega)
  rw [show (64 * w' + i) / 64 = w' by omega, show (64 * w' + i) % 64 = i by omega] at hb
  have h3 : (IntKind.u64.wrap (↑(BitVec.ofInt 64 ((limb x w').fdiv (2 ^ Min.min ((i : Int)).toNat 64)) &&& BitVec.ofInt 64 1).toNat) == 1) = true := h3
  rw [two_min i (by omega), hb] at h3
  have K : pwA a' x1 (64 * w' + i) % M256 < x1 := by rw [hA]; exact lA _
  have L : pwO a' x2 x1 (64 * w' + i) % M256 < x1 := by rw [hO]; exact lO _
  refine ⟨hm, L, K, hm, K, K, (w', i + 1), ⟨⟨hw', by show i + 1 ≤ 64; omega⟩, rfl⟩, rfl, ?_, rfl, rfl, ?_, rfl, rfl, rfl, rfl, rfl, rfl, ?_, rfl, by show 64 - (i + 1) < 64 - i; omega⟩
  ·show IntKind.i64.wrap ((i : Int) + 1) = ((i + 1 : Nat) : Int)
   rw [wrapi (by omega)]; rfl
  ·show pwA a' x1 (64 * w' + i) % M256 * (pwA a' x1 (64 * w' + i) % M256) % x1 % M256 = pwA a' x1 (64 * w' + (i + 1)) % M256
   rw [hA, pwA_step, ← Nat.add_assoc]
  ·show pwO a' x2 x1 (64 * w' + i) % M256 * (pwA a' x1 (64 * w' + i) % M256) % x1 % M256 = pwO a' x2 x1 (64 * w' + (i + 1)) % M256
   rw [hA, hO, pwO_one h3, ← Nat.add_assoc]
 ·have e : w' = w := e
  subst e
  have hw' : w' < 4 := hw'
  have h2 : (i : Int) < 64 := of_decide_eq_true h2
  have hb := hbit (64 * w' + i) (by omega)
  rw [show (64 * w' + i) / 64 = w' by omega, show (64 * w' + i) % 64 = i by omega] at hb
  have h3 : (IntKind.u64.wrap (↑(BitVec.ofInt 64 ((limb x w').fdiv (2 ^ Min.min ((i : Int)).toNat 64)) &&& BitVec.ofInt 64 1).toNat) == 1) = false := h3
  rw [two_min i (by omega), hb] at h3
  have K : pwA a' x1 (64 * w' + i) % M256 < x1 := by rw [hA]; exact lA _
  refine ⟨hm, K, K, (w', i + 1), ⟨⟨hw', by show i + 1 ≤ 64; omega⟩, rfl⟩, rfl, ?_, rfl, rfl, ?_, rfl, rfl, rfl, rfl, rfl, rfl, ?_, rfl, by show 64 - (i + 1) < 64 - i; omega⟩
  ·show IntKind.i64.wrap ((i : Int) + 1) = ((i + 1 : Nat) : Int)
   rw [wrapi (by omega)]; rfl
  ·show pwA a' x1 (64 * w' + i) % M256 * (pwA a' x1 (64 * w' + i) % M256) % x1 % M256 = pwA a' x1 (64 * w' + (i + 1)) % M256
   rw [hA, pwA_step, ← Nat.add_assoc]
  ·show pwO a' x2 x1 (64 * w' + i) % M256 = pwO a' x2 x1 (64 * w' + (i + 1)) % M256
   rw [pwO_zero h3, ← Nat.add_assoc]
 ·have e : w' = w := e
  subst e
  have hi : i ≤ 64 := hi
  have h2 : ¬ (i : Int) < 64 := of_decide_eq_false h2
  have : i = 64 := by omega
  subst this
  have hw' : w' < 4 := hw'
  refine ⟨w' + 1, by omega, rfl, ?_, ?_, rfl, rfl, rfl, rfl, rfl, rfl, ?_, rfl, by omega⟩
  ·show IntKind.i64.wrap ((w' : Int) + 1) = ((w' + 1 : Nat) : Int)
   rw [wrapi (by omega)]; rfl
  ·rfl
  ·rfl
 ·have h1 : ¬ (w : Int) < 4 := of_decide_eq_false h1
  have : w = 4 := by omega
  subst this
  refine ⟨?_, trivial⟩
  unfold pwO
  rw [show 64 * 4 = 256 by rfl, Nat.mod_eq_of_lt (show x2 < 2 ^ 256 from hxM)]
theorem card_refPower : FnOK Try.prog 33 (specUUU rpoC rpoG) :=
 FnOKV_UUU (iv := fun a x m => [(3, .inv (invRPo a x m (pwA (a % M256) (m % M256)) (pwO (a % M256) (x % M256) (m % M256)))), (6, .invR (invRPi a x m (pwA (a % M256) (m % M256)) (pwO (a % M256) (x % M256) (m % M256))) (fun y z => z.1 = y.1))]) (CxOK_cons card_refPro CxOK_nil) sl_rest Try.func33 (by kernel_rfl) (by kernel_rfl) (fun _ _ _ => bnd_Un _) fun a x m ⟨h1, h2, _⟩ => ok_refPower a x m h1 h2
end Go.Proofs.Yteimeidpcgebkaa
end

section
namespace Go.Proofs.Yteimeidpcgebkaa
open Go Go.Sx Go.RowKit
set_option maxRecDepth 100000
def specWU (c : Int → Nat → List Prop) (g : Int → Nat → SV) : FSpec := fun args =>
 match args with
 | [x, y] => match asI x, asU y with
  | some (.u64, n), some (p, m) => some (p ++ c n m, g n m)
  | _, _ => none
 | _ => none
def rbyC (n : Int) (m : Nat) : List Prop := [0 ≤ n ∧ n < 18446744073709551616, m % M256 ≠ 0]
def rbyG (n : Int) (m : Nat) : SV := .one (sU (n.toNat % (m % M256)))
def rrgC : List (List At) → List Prop
 | [[.u P, .u _, .u _, .u _, .u _, .u _, .b _], [.u x]] => [x % M256 < P % M256]
 | _ => [False]
def rrgG : List (List At) → SV
 | [[.u P, .u A, .u B, .u _, .u _, .u _, .b _], [.u x]] => .one (sU (((x % M256 * ((x % M256 * (x % M256) % (P % M256) + A % M256) % (P % M256)) % (P % M256) + B % M256) % (P % M256))))
 | _ => .tup []
def cRrg : FSpec := specA [.str pCv, .str [.u]] rrgC rrgG
def isOnB (P A B x y : Nat) (f : Bool) : Bool := if f then x % M256 == 0 && y % M256 == 0 else decide (x % M256 < P % M256) && (decide (y % M256 < P % M256) && (y % M256 * (y % M256) % (P % M256) == ((x % M256 * ((x % M256 * (x % M256) % (P % M256) + A % M256) % (P % M256)) % (P % M256) + B % M256) % (P % M256))))
def isOnG : List (List At) → SV
 | [[.u P, .u A, .u B, .u _, .u _, .u _, .b _], [.u x, .u y, .b f]] => .one (sB (isOnB P A B x y f))
 | _ => .tup []
def isOC : List (List At) → List Prop
 | [[.u _, .u _, .u _, .u _, .u _, .u _, .b _], [.u _, .u _, .b _]] => []
 | _ => [False]
def cIsOn : FSpec := specA [.str pCv, .str pPt] isOC isOnG
def isZG (a : Nat) : SV := .one (sB (a % M256 == 0))
def cxRrg : Cx := [(41, specUUU proC proG), (40, specUUU modC totG)]
def cxIsOn : Cx := [(43, specU isZG), (28, specUU ordG), (41, specUUU proC proG), (34, cRrg)]
def cxRCF : Cx := [(43, specU isZG), (28, specUU ordG), (41, specUUU proC proG), (40, specUUU modC totG), (42, specWU rbyC rbyG), (33, specUUU rpoC rpoG), (17, cIsOn)]
theorem vc_refBy (n : Int) (m : Nat) :
  OwesV Try.prog .none slRest [] 4 Try.f42 [sI .u64 n, sU m] (rbyG n m) =
  (let x1 : Nat := m % M256; 2 ≤ 2 ∧ ∀ (_ : Go.Addr), (∀ (_ : Nat), True) ∧ (dgs 2 fun (i : Nat) => intsC (SC.val (Go.Value.int (Go.IntKind.u64, n.tmod (4294967296 : Int)).fst (selG [SK.c (SC.val (Go.Value.int Go.IntKind.u64 (n.tmod (4294967296 : Int)))), SK.c (SC.val (Go.Value.int Go.IntKind.u64 (Go.IntKind.u64.wrap (n.tdiv (4294967296 : Int)))))] i)))) ∧ 2 ≤ 1000 ∧ x1 ≠ 0 ∧ (vn 2 fun (i : Nat) => (intsL [SK.c (SC.val (Go.Value.int Go.IntKind.u64 (n.tmod (4294967296 : Int)))), SK.c (SC.val (Go.Value.int Go.IntKind.u64 (Go.IntKind.u64.wrap (n.tdiv (4294967296 : Int)))))]).getD i (0 : Int)) % x1 % M256 = n.toNat % x1 % M256 ∧ True) := by kernel_rfl
theorem vc_refIsZ (a : Nat) :
  Owes Try.prog .none [] 10 Try.f43 [sU a] (isZG a) =
  (let x1 : Bool := a % M256 == 0; conj [x1] = x1) := by kernel_rfl
theorem vc_refRgt (P A B N X Y x : Nat) (F : Bool) :
  Owes Try.prog cxRrg [] 10 Try.f34 [sCv P A B N X Y F, sU x] (rrgG [[.u P, .u A, .u B, .u N, .u X, .u Y, .b F], [.u x]]) =
  (let x1 : Nat := P % M256; let x2 : Nat := x % M256; let x3 : Nat := x2 * x2 % x1; let x4 : Nat := A % M256; let x5 : Nat := (x3 % M256 + x4) % x1 % M256; let x6 : Nat := B % M256; x1 ≠ 0 ∧ x2 < x1 ∧ x2 < x1 ∧ x1 ≠ 0 ∧ x1 ≠ 0 ∧ x2 < x1 ∧ x5 < x1 ∧ x1 ≠ 0 ∧ (x2 * x5 % x1 % M256 + x6) % x1 % M256 = (x2 * ((x3 + x4) % x1) % x1 + x6) % x1 % M256 ∧ True) := by kernel_rfl
theorem vc_refIsOn (P A B N X Y x y : Nat) (F f : Bool) :
  Owes Try.prog cxIsOn [] 10 Try.f17 [sCv P A B N X Y F, sPt x y f] (isOnG [[.u P, .u A, .u B, .u N, .u X, .u Y, .b F], [.u x, .u y, .b f]]) =
  (let x1 : Nat := x % M256; let x2 : Bool := x1 == 0; let x3 : Nat := y % M256; let x4 : Nat := P % M256; let x5 : Int := cmpI x1 x4; let x6 : Bool := Decidable.decide (x5 < (0 : Int)); let x7 : Int := cmpI x3 x4; let x8 : Bool := x6 && Decidable.decide (x7 < (0 : Int)); (f = Bool.true → (x2 = Bool.true → x2 = Bool.true) ∧ (x2 = Bool.true → x2 = Bool.true) ∧ (x2 = Bool.true → x2 = Bool.true) ∧ (x2 && x3 == 0) = isOnB P A B x y f) ∧ (f = Bool.false → (x6 = Bool.true → x6 = Bool.true) ∧ (x6 = Bool.true → x6 = Bool.true) ∧ (x6 = Bool.true → x6 = Bool.true) ∧ (x6 = Bool.true → x6 = Bool.true) ∧ (x6 = Bool.true → x6 = Bool.true) ∧ (x6 = Bool.true → x6 = Bool.true) ∧ (x8 = Bool.true → x8 = Bool.true) ∧ (x8 = Bool.true → x8 = Bool.true) ∧ (x8 = Bool.true → x8 = Bool.true) ∧ (x8 = Bool.true → x8 = Bool.true) ∧ (x8 = Bool.true → x8 = Bool.true) ∧ (x8 = Bool.true → x8 = Bool.true) ∧ (x8 = Bool.true → x4 ≠ 0) ∧ (x8 = Bool.true → x3 < x4) ∧ (x8 = Bool.true → x3 < x4) ∧ (x8 = Bool.true → x8 = Bool.true) ∧ (x8 = Bool.true → x8 = Bool.true) ∧ (x8 = Bool.true → x8 = Bool.true) ∧ (x8 = Bool.true → x1 < x4) ∧ (x8 = Bool.true → x8 = Bool.true) ∧ (x8 = Bool.true → x8 = Bool.true) ∧ (x8 = Bool.true → x8 = Bool.true) ∧ (x8 && conj [x3 * x3 % x4 % M256 == (x1 * ((x1 * x1 % x4 + A % M256) % x4) % x4 + B % M256) % x4 % M256]) = isOnB P A B x y f)) := by kernel_rfl
theorem vc_refCF (P A B N X Y : Nat) (F : Bool) (e : Int) :
  Owes Try.prog cxRCF [] 10 Try.f16 [sCv P A B N X Y F] (.one (sI .i64 e)) =
  (let x1 : Nat := P % M256; let x2 : Int := cmpI x1 3; let x3 : Bool := Decidable.decide (x2 > (0 : Int)); let x4 : Bool := x3 && Go.IntKind.u64.wrap (↑(BitVec.ofInt 64 (limb P 0) &&& BitVec.ofInt 64 (3 : Int)).toNat : Int) == (3 : Int); let x5 : Nat := A % M256; let x6 : Int := cmpI x5 x1; let x7 : Bool := x4 && Decidable.decide (x6 < (0 : Int)); let x8 : Nat := B % M256; let x9 : Int := cmpI x8 x1; let x10 : Bool := x7 && Decidable.decide (x9 < (0 : Int)); let x11 : Int := cmpI (N % M256) 1; let x12 : Nat := 4 % x1 % M256; let x13 : Nat := x5 ^ 3 % x1 % M256; let x14 : Nat := 27 % x1 % M256; let x15 : Nat := x8 ^ 2 % x1 % M256; let x16 : Bool := (x12 * x13 % x1 % M256 + x14 * x15 % x1 % M256) % x1 % M256 == 0; let x17 : Bool := x16 || F; (x3 = Bool.true → x3 = Bool.true) ∧ (x3 = Bool.true → x3 = Bool.true) ∧ (x3 = Bool.true → x3 = Bool.true) ∧ (x3 = Bool.true → x3 = Bool.true) ∧ (x3 = Bool.true → x3 = Bool.true) ∧ (x4 = Bool.true → x4 = Bool.true) ∧ (x4 = Bool.true → x4 = Bool.true) ∧ (x4 = Bool.true → x4 = Bool.true) ∧ (x4 = Bool.true → x4 = Bool.true) ∧ (x4 = Bool.true → x4 = Bool.true) ∧ (x4 = Bool.true → x4 = Bool.true) ∧ (x7 = Bool.true → x7 = Bool.true) ∧ (x7 = Bool.true → x7 = Bool.true) ∧ (x7 = Bool.true → x7 = Bool.true) ∧ (x7 = Bool.true → x7 = Bool.true) ∧ (x7 = Bool.true → x7 = Bool.true) ∧ (x7 = Bool.true → x7 = Bool.true) ∧ (x10 = Bool.true → x10 = Bool.true) ∧ (x10 = Bool.true → x10 = Bool.true) ∧ (x10 = Bool.true → x10 = Bool.true) ∧ (x10 = Bool.true → x10 = Bool.true) ∧ (x10 = Bool.true → x10 = Bool.true) ∧ ((!(x10 && Decidable.decide (x11 > (0 : Int)))) = Bool.true → (16 : Int) = e) ∧ ((!(x10 && Decidable.decide (x11 > (0 : Int)))) = Bool.false → ((0 : Int) ≤ (4 : Int) ∧ (4 : Int) < (18446744073709551616 : Int)) ∧ x1 ≠ 0 ∧ x1 ≠ 0 ∧ x5 < x1 ∧ x1 ≠ 0 ∧ x12 < x1 ∧ x13 < x1 ∧ ((0 : Int) ≤ (27 : Int) ∧ (27 : Int) < (18446744073709551616 : Int)) ∧ x1 ≠ 0 ∧ x1 ≠ 0 ∧ x8 < x1 ∧ x1 ≠ 0 ∧ x14 < x1 ∧ x15 < x1 ∧ x1 ≠ 0 ∧ ((!x16) = Bool.true → (!x16) = Bool.true) ∧ ((!x16) = Bool.true → (!x16) = Bool.true) ∧ (x16 = Bool.false → (!x16) = Bool.true) ∧ ((!x17) = Bool.true → (!x17) = Bool.true) ∧ ((!x17) = Bool.true → (!x17) = Bool.true) ∧ ((!x17) = Bool.true → (!x17) = Bool.true) ∧ ((!x17) = Bool.true → (!x17) = Bool.true) ∧ (x17 = Bool.false → (!x17) = Bool.true) ∧ ((x17 || !isOnB P A B X Y F) = Bool.true → (16 : Int) = e) ∧ ((x17 || !isOnB P A B X Y F) = Bool.false → (0 : Int) = e))) := by kernel_rfl
end Go.Proofs.Yteimeidpcgebkaa
end
