/-
  Texts: V63, P105, P106, P107, V64, P108, V65, P109, V66, P110, V72, V70, P115, P116, V71, P117, V76, P121, P122.
-/
import Derived.Test.YtjokmekclibpmaaM1
import Derived.Test.YtjokmekclibpmaaM2
import Derived.Test.YtjokmekclibpmaaM3
import Derived.Test.YtjokmekclibpmaaM4
import Derived.Test.YtjokmekclibpmaaM5
import Derived.Test.YtjokmekclibpmaaM6
import Derived.Test.YtjokmekclibpmaaM7
import Derived.Test.YtjokmekclibpmaaM8
import Derived.Test.YtjokmekclibpmaaM9
import Derived.Test.YtjokmekclibpmaaM10
import Derived.Test.YtjokmekclibpmaaM11
import Derived.Test.YtjokmekclibpmaaM12
section
/-
  The reference's wide numbers, and those by a modulus: reckoned by the kernel. (Laid by program.)
-/
namespace Go.Proofs.Ytjokmekclibpmaa
open Go Go.Sx Go.RowKit
set_option maxRecDepth 100000
def restUC (n : Nat) (f : Nat → Int) (m : Nat) : List Prop := [dgs n f, n ≤ 1000, m % M256 ≠ 0]
def restUR (n : Nat) (f : Nat → Int) (m : Nat) : List RS := [.v (sU (vn n f % (m % M256)))]
def slRest : List (Nat × SSpec) := (46, specDU restUC restUR) :: slAll
def modC (_ _ m : Nat) : List Prop := [m % M256 ≠ 0]
def totG (a b m : Nat) : SV := .one (sU ((a % M256 + b % M256) % (m % M256)))
def proC (a b m : Nat) : List Prop := [m % M256 ≠ 0, a % M256 < m % M256, b % M256 < m % M256]
def proG (a b m : Nat) : SV := .one (sU (a % M256 * (b % M256) % (m % M256)))
def ordG (a b : Nat) : SV := .one (sI .i64 (cmpI (a % M256) (b % M256)))
-- VC vc_refOrd HASH ba0331c4e576a38c
theorem vc_refOrd (a b : Nat) :
    OwesV Try.prog .none slAll [] 4 Try.f19 [sU a, sU b] (ordG a b) =
    (let x1 : Nat := a % Go.Sx.M256; let x2 : Nat := b % Go.Sx.M256; ((∀ (a : Option Go.Addr) (cap : Nat), (a = Option.none → (8 : Nat) = (0 : Nat) ∧ cap = (0 : Nat)) → (8 : Nat) ≤ cap → ∀ (a : Option Go.Addr) (cap : Nat), (a = Option.none → (8 : Nat) = (0 : Nat) ∧ cap = (0 : Nat)) → (8 : Nat) ≤ cap → (∀ (_ : Nat), True) ∧ (∀ (_ : Nat), True) ∧ (Go.Sx.dgs (8 : Nat) fun (i : Nat) => Go.Sx.intsC (Go.Sx.SC.val (Go.Value.int Go.IntKind.u64 (Go.Sx.dg x1 i)))) ∧ (8 : Nat) ≤ (1000 : Nat) ∧ (Go.Sx.dgs (8 : Nat) fun (i : Nat) => Go.Sx.intsC (Go.Sx.SC.val (Go.Value.int Go.IntKind.u64 (Go.Sx.dg x2 i)))) ∧ (8 : Nat) ≤ (1000 : Nat) ∧ Go.Sx.cmpI (Go.Sx.vn (8 : Nat) fun (i : Nat) => Go.Sx.dg x1 i) (Go.Sx.vn (8 : Nat) fun (i : Nat) => Go.Sx.dg x2 i) = Go.Sx.cmpI x1 x2) ∧ ∀ (a : Option Go.Addr) (cap : Nat), (a = Option.none → (8 : Nat) = (0 : Nat) ∧ cap = (0 : Nat)) → (8 : Nat) ≤ cap → ∀ (a : Option Go.Addr) (cap : Nat), (a = Option.none → (8 : Nat) = (0 : Nat) ∧ cap = (0 : Nat)) → (8 : Nat) ≤ cap → (∀ (_ : Nat), True) ∧ (∀ (_ : Nat), True) ∧ (Go.Sx.dgs (8 : Nat) fun (i : Nat) => Go.Sx.intsC (Go.Sx.SC.val (Go.Value.int Go.IntKind.u64 (Go.Sx.dg x1 i)))) ∧ (8 : Nat) ≤ (1000 : Nat) ∧ (Go.Sx.dgs (8 : Nat) fun (i : Nat) => Go.Sx.intsC (Go.Sx.SC.val (Go.Value.int Go.IntKind.u64 (Go.Sx.dg x2 i)))) ∧ (8 : Nat) ≤ (1000 : Nat) ∧ Go.Sx.cmpI (Go.Sx.vn (8 : Nat) fun (i : Nat) => Go.Sx.dg x1 i) (Go.Sx.vn (8 : Nat) fun (i : Nat) => Go.Sx.dg x2 i) = Go.Sx.cmpI x1 x2) ∧ ∀ (a : Option Go.Addr) (cap : Nat), (a = Option.none → (8 : Nat) = (0 : Nat) ∧ cap = (0 : Nat)) → (8 : Nat) ≤ cap → ∀ (a : Option Go.Addr) (cap : Nat), (a = Option.none → (8 : Nat) = (0 : Nat) ∧ cap = (0 : Nat)) → (8 : Nat) ≤ cap → (∀ (_ : Nat), True) ∧ (∀ (_ : Nat), True) ∧ (Go.Sx.dgs (8 : Nat) fun (i : Nat) => Go.Sx.intsC (Go.Sx.SC.val (Go.Value.int Go.IntKind.u64 (Go.Sx.dg x1 i)))) ∧ (8 : Nat) ≤ (1000 : Nat) ∧ (Go.Sx.dgs (8 : Nat) fun (i : Nat) => Go.Sx.intsC (Go.Sx.SC.val (Go.Value.int Go.IntKind.u64 (Go.Sx.dg x2 i)))) ∧ (8 : Nat) ≤ (1000 : Nat) ∧ Go.Sx.cmpI (Go.Sx.vn (8 : Nat) fun (i : Nat) => Go.Sx.dg x1 i) (Go.Sx.vn (8 : Nat) fun (i : Nat) => Go.Sx.dg x2 i) = Go.Sx.cmpI x1 x2) := by kernel_rfl
-- END VC
-- VC vc_refRest HASH c3736961cf1d2ee5
theorem vc_refRest (a : Option Addr) (n c : Nat) (f : Nat → Int) (m : Nat) :
    OwesR Try.prog .none slAll [] 4 Try.f46 [xsI a n c .u64 f, sU m] false (restUR n f m) =
    (let x1 : Nat := m % Go.Sx.M256; let x2 : Nat := Go.Sx.vn (8 : Nat) fun (i : Nat) => Go.Sx.dg x1 i; let x3 : Nat := Go.Sx.remL (Go.Sx.vn n fun (i : Nat) => f i) x2 n; let x4 : Nat := Go.Sx.vn n fun (i : Nat) => Go.Sx.intsC (Go.Sx.SC.val (Go.Value.int Go.IntKind.u64 (f i))); let x5 : Nat := Go.Sx.vn (8 : Nat) fun (i : Nat) => Go.Sx.intsC (Go.Sx.SC.val (Go.Value.int Go.IntKind.u64 (Go.Sx.dg x1 i))); ∀ (a : Option Go.Addr) (cap : Nat), (a = Option.none → (8 : Nat) = (0 : Nat) ∧ cap = (0 : Nat)) → (8 : Nat) ≤ cap → (∀ (_ : Nat), True) ∧ (∀ (_ : Nat), True) ∧ (Go.Sx.dgs n fun (i : Nat) => Go.Sx.intsC (Go.Sx.SC.val (Go.Value.int Go.IntKind.u64 (f i)))) ∧ n ≤ (1000 : Nat) ∧ (Go.Sx.dgs (8 : Nat) fun (i : Nat) => Go.Sx.intsC (Go.Sx.SC.val (Go.Value.int Go.IntKind.u64 (Go.Sx.dg x1 i)))) ∧ (8 : Nat) ≤ (900 : Nat) ∧ x2 ≠ (0 : Nat) ∧ ∀ (a : Option Go.Addr) (cap : Nat), (a = Option.none → n = (0 : Nat) ∧ cap = (0 : Nat)) → n ≤ cap → ∀ (a : Option Go.Addr) (cap : Nat), (a = Option.none → x3 = (0 : Nat) ∧ cap = (0 : Nat)) → x3 ≤ cap → (∀ (_ : Nat), True) ∧ (Go.Sx.dgs (Go.Sx.remL x4 x5 n) fun (i : Nat) => Go.Sx.intsC (Go.Sx.SC.val (Go.Value.int Go.IntKind.u64 (Go.Sx.dg (x4 % x5) i)))) ∧ x3 ≤ (1000 : Nat) ∧ (Go.Sx.vn x3 fun (i : Nat) => Go.Sx.dg ((Go.Sx.vn n fun (i : Nat) => f i) % x2) i) % Go.Sx.M256 % Go.Sx.M256 = Go.Sx.vn n f % x1 % Go.Sx.M256 ∧ True) := by kernel_rfl
-- END VC
-- VC vc_refTot HASH a168cc965ef49cbe
theorem vc_refTot (a b m : Nat) :
    OwesV Try.prog .none slRest [] 4 Try.f20 [sU a, sU b, sU m] (totG a b m) =
    (let x1 : Nat := a % Go.Sx.M256; let x2 : Nat := b % Go.Sx.M256; let x3 : Nat := m % Go.Sx.M256; ((∀ (a : Option Go.Addr) (cap : Nat), (a = Option.none → (8 : Nat) = (0 : Nat) ∧ cap = (0 : Nat)) → (8 : Nat) ≤ cap → ((∀ (a : Option Go.Addr) (cap : Nat), (a = Option.none → (8 : Nat) = (0 : Nat) ∧ cap = (0 : Nat)) → (8 : Nat) ≤ cap → ((∀ (_ : Nat), True) ∧ (∀ (_ : Nat), True) ∧ (Go.Sx.dgs (8 : Nat) fun (i : Nat) => Go.Sx.intsC (Go.Sx.SC.val (Go.Value.int Go.IntKind.u64 (Go.Sx.dg x1 i)))) ∧ (8 : Nat) ≤ (1000 : Nat) ∧ (Go.Sx.dgs (8 : Nat) fun (i : Nat) => Go.Sx.intsC (Go.Sx.SC.val (Go.Value.int Go.IntKind.u64 (Go.Sx.dg x2 i)))) ∧ (8 : Nat) ≤ (1000 : Nat) ∧ ∀ (a : Option Go.Addr) (cap : Nat), (a = Option.none → (9 : Nat) = (0 : Nat) ∧ cap = (0 : Nat)) → (9 : Nat) ≤ cap → (∀ (_ : Nat), True) ∧ (Go.Sx.dgs (9 : Nat) fun (i : Nat) => Go.Sx.intsC (Go.Sx.SC.val (Go.Value.int Go.IntKind.u64 (Go.Sx.dg ((Go.Sx.vn (8 : Nat) fun (i : Nat) => Go.Sx.intsC (Go.Sx.SC.val (Go.Value.int Go.IntKind.u64 (Go.Sx.dg x1 i)))) + Go.Sx.vn (8 : Nat) fun (i : Nat) => Go.Sx.intsC (Go.Sx.SC.val (Go.Value.int Go.IntKind.u64 (Go.Sx.dg x2 i)))) i)))) ∧ (9 : Nat) ≤ (1000 : Nat) ∧ x3 ≠ (0 : Nat) ∧ (Go.Sx.vn (9 : Nat) fun (i : Nat) => Go.Sx.dg ((Go.Sx.vn (8 : Nat) fun (i : Nat) => Go.Sx.dg x1 i) + Go.Sx.vn (8 : Nat) fun (i : Nat) => Go.Sx.dg x2 i) i) % x3 % Go.Sx.M256 = (x1 + x2) % x3 % Go.Sx.M256 ∧ True) ∧ (∀ (_ : Nat), True) ∧ (∀ (_ : Nat), True) ∧ (Go.Sx.dgs (8 : Nat) fun (i : Nat) => Go.Sx.intsC (Go.Sx.SC.val (Go.Value.int Go.IntKind.u64 (Go.Sx.dg x1 i)))) ∧ (8 : Nat) ≤ (1000 : Nat) ∧ (Go.Sx.dgs (8 : Nat) fun (i : Nat) => Go.Sx.intsC (Go.Sx.SC.val (Go.Value.int Go.IntKind.u64 (Go.Sx.dg x2 i)))) ∧ (8 : Nat) ≤ (1000 : Nat) ∧ ∀ (a : Option Go.Addr) (cap : Nat), (a = Option.none → (9 : Nat) = (0 : Nat) ∧ cap = (0 : Nat)) → (9 : Nat) ≤ cap → (∀ (_ : Nat), True) ∧ (Go.Sx.dgs (9 : Nat) fun (i : Nat) => Go.Sx.intsC (Go.Sx.SC.val (Go.Value.int Go.IntKind.u64 (Go.Sx.dg ((Go.Sx.vn (8 : Nat) fun (i : Nat) => Go.Sx.intsC (Go.Sx.SC.val (Go.Value.int Go.IntKind.u64 (Go.Sx.dg x1 i)))) + Go.Sx.vn (8 : Nat) fun (i : Nat) => Go.Sx.intsC (Go.Sx.SC.val (Go.Value.int Go.IntKind.u64 (Go.Sx.dg x2 i)))) i)))) ∧ (9 : Nat) ≤ (1000 : Nat) ∧ x3 ≠ (0 : Nat) ∧ (Go.Sx.vn (9 : Nat) fun (i : Nat) => Go.Sx.dg ((Go.Sx.vn (8 : Nat) fun (i : Nat) => Go.Sx.dg x1 i) + Go.Sx.vn (8 : Nat) fun (i : Nat) => Go.Sx.dg x2 i) i) % x3 % Go.Sx.M256 = (x1 + x2) % x3 % Go.Sx.M256 ∧ True) ∧ ∀ (a : Option Go.Addr) (cap : Nat), (a = Option.none → (8 : Nat) = (0 : Nat) ∧ cap = (0 : Nat)) → (8 : Nat) ≤ cap → (∀ (_ : Nat), True) ∧ (∀ (_ : Nat), True) ∧ (Go.Sx.dgs (8 : Nat) fun (i : Nat) => Go.Sx.intsC (Go.Sx.SC.val (Go.Value.int Go.IntKind.u64 (Go.Sx.dg x1 i)))) ∧ (8 : Nat) ≤ (1000 : Nat) ∧ (Go.Sx.dgs (8 : Nat) fun (i : Nat) => Go.Sx.intsC (Go.Sx.SC.val (Go.Value.int Go.IntKind.u64 (Go.Sx.dg x2 i)))) ∧ (8 : Nat) ≤ (1000 : Nat) ∧ ∀ (a : Option Go.Addr) (cap : Nat), (a = Option.none → (9 : Nat) = (0 : Nat) ∧ cap = (0 : Nat)) → (9 : Nat) ≤ cap → (∀ (_ : Nat), True) ∧ (Go.Sx.dgs (9 : Nat) fun (i : Nat) => Go.Sx.intsC (Go.Sx.SC.val (Go.Value.int Go.IntKind.u64 (Go.Sx.dg ((Go.Sx.vn (8 : Nat) fun (i : Nat) => Go.Sx.intsC (Go.Sx.SC.val (Go.Value.int Go.IntKind.u64 (Go.Sx.dg x1 i)))) + Go.Sx.vn (8 : Nat) fun (i : Nat) => Go.Sx.intsC (Go.Sx.SC.val (Go.Value.int Go.IntKind.u64 (Go.Sx.dg x2 i)))) i)))) ∧ (9 : Nat) ≤ (1000 : Nat) ∧ x3 ≠ (0 : Nat) ∧ (Go.Sx.vn (9 : Nat) fun (i : Nat) => Go.Sx.dg ((Go.Sx.vn (8 : Nat) fun (i : Nat) => Go.Sx.dg x1 i) + Go.Sx.vn (8 : Nat) fun (i : Nat) => Go.Sx.dg x2 i) i) % x3 % Go.Sx.M256 = (x1 + x2) % x3 % Go.Sx.M256 ∧ True) ∧ ∀ (a : Option Go.Addr) (cap : Nat), (a = Option.none → (8 : Nat) = (0 : Nat) ∧ cap = (0 : Nat)) → (8 : Nat) ≤ cap → (∀ (_ : Nat), True) ∧ (∀ (_ : Nat), True) ∧ (Go.Sx.dgs (8 : Nat) fun (i : Nat) => Go.Sx.intsC (Go.Sx.SC.val (Go.Value.int Go.IntKind.u64 (Go.Sx.dg x1 i)))) ∧ (8 : Nat) ≤ (1000 : Nat) ∧ (Go.Sx.dgs (8 : Nat) fun (i : Nat) => Go.Sx.intsC (Go.Sx.SC.val (Go.Value.int Go.IntKind.u64 (Go.Sx.dg x2 i)))) ∧ (8 : Nat) ≤ (1000 : Nat) ∧ ∀ (a : Option Go.Addr) (cap : Nat), (a = Option.none → (9 : Nat) = (0 : Nat) ∧ cap = (0 : Nat)) → (9 : Nat) ≤ cap → (∀ (_ : Nat), True) ∧ (Go.Sx.dgs (9 : Nat) fun (i : Nat) => Go.Sx.intsC (Go.Sx.SC.val (Go.Value.int Go.IntKind.u64 (Go.Sx.dg ((Go.Sx.vn (8 : Nat) fun (i : Nat) => Go.Sx.intsC (Go.Sx.SC.val (Go.Value.int Go.IntKind.u64 (Go.Sx.dg x1 i)))) + Go.Sx.vn (8 : Nat) fun (i : Nat) => Go.Sx.intsC (Go.Sx.SC.val (Go.Value.int Go.IntKind.u64 (Go.Sx.dg x2 i)))) i)))) ∧ (9 : Nat) ≤ (1000 : Nat) ∧ x3 ≠ (0 : Nat) ∧ (Go.Sx.vn (9 : Nat) fun (i : Nat) => Go.Sx.dg ((Go.Sx.vn (8 : Nat) fun (i : Nat) => Go.Sx.dg x1 i) + Go.Sx.vn (8 : Nat) fun (i : Nat) => Go.Sx.dg x2 i) i) % x3 % Go.Sx.M256 = (x1 + x2) % x3 % Go.Sx.M256 ∧ True) ∧ ((∀ (a : Option Go.Addr) (cap : Nat), (a = Option.none → (8 : Nat) = (0 : Nat) ∧ cap = (0 : Nat)) → (8 : Nat) ≤ cap → (∀ (a : Option Go.Addr) (cap : Nat), (a = Option.none → (8 : Nat) = (0 : Nat) ∧ cap = (0 : Nat)) → (8 : Nat) ≤ cap → ((∀ (_ : Nat), True) ∧ (∀ (_ : Nat), True) ∧ (Go.Sx.dgs (8 : Nat) fun (i : Nat) => Go.Sx.intsC (Go.Sx.SC.val (Go.Value.int Go.IntKind.u64 (Go.Sx.dg x1 i)))) ∧ (8 : Nat) ≤ (1000 : Nat) ∧ (Go.Sx.dgs (8 : Nat) fun (i : Nat) => Go.Sx.intsC (Go.Sx.SC.val (Go.Value.int Go.IntKind.u64 (Go.Sx.dg x2 i)))) ∧ (8 : Nat) ≤ (1000 : Nat) ∧ ∀ (a : Option Go.Addr) (cap : Nat), (a = Option.none → (9 : Nat) = (0 : Nat) ∧ cap = (0 : Nat)) → (9 : Nat) ≤ cap → (∀ (_ : Nat), True) ∧ (Go.Sx.dgs (9 : Nat) fun (i : Nat) => Go.Sx.intsC (Go.Sx.SC.val (Go.Value.int Go.IntKind.u64 (Go.Sx.dg ((Go.Sx.vn (8 : Nat) fun (i : Nat) => Go.Sx.intsC (Go.Sx.SC.val (Go.Value.int Go.IntKind.u64 (Go.Sx.dg x1 i)))) + Go.Sx.vn (8 : Nat) fun (i : Nat) => Go.Sx.intsC (Go.Sx.SC.val (Go.Value.int Go.IntKind.u64 (Go.Sx.dg x2 i)))) i)))) ∧ (9 : Nat) ≤ (1000 : Nat) ∧ x3 ≠ (0 : Nat) ∧ (Go.Sx.vn (9 : Nat) fun (i : Nat) => Go.Sx.dg ((Go.Sx.vn (8 : Nat) fun (i : Nat) => Go.Sx.dg x1 i) + Go.Sx.vn (8 : Nat) fun (i : Nat) => Go.Sx.dg x2 i) i) % x3 % Go.Sx.M256 = (x1 + x2) % x3 % Go.Sx.M256 ∧ True) ∧ (∀ (_ : Nat), True) ∧ (∀ (_ : Nat), True) ∧ (Go.Sx.dgs (8 : Nat) fun (i : Nat) => Go.Sx.intsC (Go.Sx.SC.val (Go.Value.int Go.IntKind.u64 (Go.Sx.dg x1 i)))) ∧ (8 : Nat) ≤ (1000 : Nat) ∧ (Go.Sx.dgs (8 : Nat) fun (i : Nat) => Go.Sx.intsC (Go.Sx.SC.val (Go.Value.int Go.IntKind.u64 (Go.Sx.dg x2 i)))) ∧ (8 : Nat) ≤ (1000 : Nat) ∧ ∀ (a : Option Go.Addr) (cap : Nat), (a = Option.none → (9 : Nat) = (0 : Nat) ∧ cap = (0 : Nat)) → (9 : Nat) ≤ cap → (∀ (_ : Nat), True) ∧ (Go.Sx.dgs (9 : Nat) fun (i : Nat) => Go.Sx.intsC (Go.Sx.SC.val (Go.Value.int Go.IntKind.u64 (Go.Sx.dg ((Go.Sx.vn (8 : Nat) fun (i : Nat) => Go.Sx.intsC (Go.Sx.SC.val (Go.Value.int Go.IntKind.u64 (Go.Sx.dg x1 i)))) + Go.Sx.vn (8 : Nat) fun (i : Nat) => Go.Sx.intsC (Go.Sx.SC.val (Go.Value.int Go.IntKind.u64 (Go.Sx.dg x2 i)))) i)))) ∧ (9 : Nat) ≤ (1000 : Nat) ∧ x3 ≠ (0 : Nat) ∧ (Go.Sx.vn (9 : Nat) fun (i : Nat) => Go.Sx.dg ((Go.Sx.vn (8 : Nat) fun (i : Nat) => Go.Sx.dg x1 i) + Go.Sx.vn (8 : Nat) fun (i : Nat) => Go.Sx.dg x2 i) i) % x3 % Go.Sx.M256 = (x1 + x2) % x3 % Go.Sx.M256 ∧ True) ∧ ∀ (a : Option Go.Addr) (cap : Nat), (a = Option.none → (8 : Nat) = (0 : Nat) ∧ cap = (0 : Nat)) → (8 : Nat) ≤ cap → (∀ (_ : Nat), True) ∧ (∀ (_ : Nat), True) ∧ (Go.Sx.dgs (8 : Nat) fun (i : Nat) => Go.Sx.intsC (Go.Sx.SC.val (Go.Value.int Go.IntKind.u64 (Go.Sx.dg x1 i)))) ∧ (8 : Nat) ≤ (1000 : Nat) ∧ (Go.Sx.dgs (8 : Nat) fun (i : Nat) => Go.Sx.intsC (Go.Sx.SC.val (Go.Value.int Go.IntKind.u64 (Go.Sx.dg x2 i)))) ∧ (8 : Nat) ≤ (1000 : Nat) ∧ ∀ (a : Option Go.Addr) (cap : Nat), (a = Option.none → (9 : Nat) = (0 : Nat) ∧ cap = (0 : Nat)) → (9 : Nat) ≤ cap → (∀ (_ : Nat), True) ∧ (Go.Sx.dgs (9 : Nat) fun (i : Nat) => Go.Sx.intsC (Go.Sx.SC.val (Go.Value.int Go.IntKind.u64 (Go.Sx.dg ((Go.Sx.vn (8 : Nat) fun (i : Nat) => Go.Sx.intsC (Go.Sx.SC.val (Go.Value.int Go.IntKind.u64 (Go.Sx.dg x1 i)))) + Go.Sx.vn (8 : Nat) fun (i : Nat) => Go.Sx.intsC (Go.Sx.SC.val (Go.Value.int Go.IntKind.u64 (Go.Sx.dg x2 i)))) i)))) ∧ (9 : Nat) ≤ (1000 : Nat) ∧ x3 ≠ (0 : Nat) ∧ (Go.Sx.vn (9 : Nat) fun (i : Nat) => Go.Sx.dg ((Go.Sx.vn (8 : Nat) fun (i : Nat) => Go.Sx.dg x1 i) + Go.Sx.vn (8 : Nat) fun (i : Nat) => Go.Sx.dg x2 i) i) % x3 % Go.Sx.M256 = (x1 + x2) % x3 % Go.Sx.M256 ∧ True) ∧ ∀ (a : Option Go.Addr) (cap : Nat), (a = Option.none → (8 : Nat) = (0 : Nat) ∧ cap = (0 : Nat)) → (8 : Nat) ≤ cap → ∀ (a : Option Go.Addr) (cap : Nat), (a = Option.none → (8 : Nat) = (0 : Nat) ∧ cap = (0 : Nat)) → (8 : Nat) ≤ cap → (∀ (_ : Nat), True) ∧ (∀ (_ : Nat), True) ∧ (Go.Sx.dgs (8 : Nat) fun (i : Nat) => Go.Sx.intsC (Go.Sx.SC.val (Go.Value.int Go.IntKind.u64 (Go.Sx.dg x1 i)))) ∧ (8 : Nat) ≤ (1000 : Nat) ∧ (Go.Sx.dgs (8 : Nat) fun (i : Nat) => Go.Sx.intsC (Go.Sx.SC.val (Go.Value.int Go.IntKind.u64 (Go.Sx.dg x2 i)))) ∧ (8 : Nat) ≤ (1000 : Nat) ∧ ∀ (a : Option Go.Addr) (cap : Nat), (a = Option.none → (9 : Nat) = (0 : Nat) ∧ cap = (0 : Nat)) → (9 : Nat) ≤ cap → (∀ (_ : Nat), True) ∧ (Go.Sx.dgs (9 : Nat) fun (i : Nat) => Go.Sx.intsC (Go.Sx.SC.val (Go.Value.int Go.IntKind.u64 (Go.Sx.dg ((Go.Sx.vn (8 : Nat) fun (i : Nat) => Go.Sx.intsC (Go.Sx.SC.val (Go.Value.int Go.IntKind.u64 (Go.Sx.dg x1 i)))) + Go.Sx.vn (8 : Nat) fun (i : Nat) => Go.Sx.intsC (Go.Sx.SC.val (Go.Value.int Go.IntKind.u64 (Go.Sx.dg x2 i)))) i)))) ∧ (9 : Nat) ≤ (1000 : Nat) ∧ x3 ≠ (0 : Nat) ∧ (Go.Sx.vn (9 : Nat) fun (i : Nat) => Go.Sx.dg ((Go.Sx.vn (8 : Nat) fun (i : Nat) => Go.Sx.dg x1 i) + Go.Sx.vn (8 : Nat) fun (i : Nat) => Go.Sx.dg x2 i) i) % x3 % Go.Sx.M256 = (x1 + x2) % x3 % Go.Sx.M256 ∧ True) ∧ (∀ (a : Option Go.Addr) (cap : Nat), (a = Option.none → (8 : Nat) = (0 : Nat) ∧ cap = (0 : Nat)) → (8 : Nat) ≤ cap → ∀ (a : Option Go.Addr) (cap : Nat), (a = Option.none → (8 : Nat) = (0 : Nat) ∧ cap = (0 : Nat)) → (8 : Nat) ≤ cap → (∀ (_ : Nat), True) ∧ (∀ (_ : Nat), True) ∧ (Go.Sx.dgs (8 : Nat) fun (i : Nat) => Go.Sx.intsC (Go.Sx.SC.val (Go.Value.int Go.IntKind.u64 (Go.Sx.dg x1 i)))) ∧ (8 : Nat) ≤ (1000 : Nat) ∧ (Go.Sx.dgs (8 : Nat) fun (i : Nat) => Go.Sx.intsC (Go.Sx.SC.val (Go.Value.int Go.IntKind.u64 (Go.Sx.dg x2 i)))) ∧ (8 : Nat) ≤ (1000 : Nat) ∧ ∀ (a : Option Go.Addr) (cap : Nat), (a = Option.none → (9 : Nat) = (0 : Nat) ∧ cap = (0 : Nat)) → (9 : Nat) ≤ cap → (∀ (_ : Nat), True) ∧ (Go.Sx.dgs (9 : Nat) fun (i : Nat) => Go.Sx.intsC (Go.Sx.SC.val (Go.Value.int Go.IntKind.u64 (Go.Sx.dg ((Go.Sx.vn (8 : Nat) fun (i : Nat) => Go.Sx.intsC (Go.Sx.SC.val (Go.Value.int Go.IntKind.u64 (Go.Sx.dg x1 i)))) + Go.Sx.vn (8 : Nat) fun (i : Nat) => Go.Sx.intsC (Go.Sx.SC.val (Go.Value.int Go.IntKind.u64 (Go.Sx.dg x2 i)))) i)))) ∧ (9 : Nat) ≤ (1000 : Nat) ∧ x3 ≠ (0 : Nat) ∧ (Go.Sx.vn (9 : Nat) fun (i : Nat) => Go.Sx.dg ((Go.Sx.vn (8 : Nat) fun (i : Nat) => Go.Sx.dg x1 i) + Go.Sx.vn (8 : Nat) fun (i : Nat) => Go.Sx.dg x2 i) i) % x3 % Go.Sx.M256 = (x1 + x2) % x3 % Go.Sx.M256 ∧ True) ∧ ∀ (a : Option Go.Addr) (cap : Nat), (a = Option.none → (8 : Nat) = (0 : Nat) ∧ cap = (0 : Nat)) → (8 : Nat) ≤ cap → ∀ (a : Option Go.Addr) (cap : Nat), (a = Option.none → (8 : Nat) = (0 : Nat) ∧ cap = (0 : Nat)) → (8 : Nat) ≤ cap → (∀ (_ : Nat), True) ∧ (∀ (_ : Nat), True) ∧ (Go.Sx.dgs (8 : Nat) fun (i : Nat) => Go.Sx.intsC (Go.Sx.SC.val (Go.Value.int Go.IntKind.u64 (Go.Sx.dg x1 i)))) ∧ (8 : Nat) ≤ (1000 : Nat) ∧ (Go.Sx.dgs (8 : Nat) fun (i : Nat) => Go.Sx.intsC (Go.Sx.SC.val (Go.Value.int Go.IntKind.u64 (Go.Sx.dg x2 i)))) ∧ (8 : Nat) ≤ (1000 : Nat) ∧ ∀ (a : Option Go.Addr) (cap : Nat), (a = Option.none → (9 : Nat) = (0 : Nat) ∧ cap = (0 : Nat)) → (9 : Nat) ≤ cap → (∀ (_ : Nat), True) ∧ (Go.Sx.dgs (9 : Nat) fun (i : Nat) => Go.Sx.intsC (Go.Sx.SC.val (Go.Value.int Go.IntKind.u64 (Go.Sx.dg ((Go.Sx.vn (8 : Nat) fun (i : Nat) => Go.Sx.intsC (Go.Sx.SC.val (Go.Value.int Go.IntKind.u64 (Go.Sx.dg x1 i)))) + Go.Sx.vn (8 : Nat) fun (i : Nat) => Go.Sx.intsC (Go.Sx.SC.val (Go.Value.int Go.IntKind.u64 (Go.Sx.dg x2 i)))) i)))) ∧ (9 : Nat) ≤ (1000 : Nat) ∧ x3 ≠ (0 : Nat) ∧ (Go.Sx.vn (9 : Nat) fun (i : Nat) => Go.Sx.dg ((Go.Sx.vn (8 : Nat) fun (i : Nat) => Go.Sx.dg x1 i) + Go.Sx.vn (8 : Nat) fun (i : Nat) => Go.Sx.dg x2 i) i) % x3 % Go.Sx.M256 = (x1 + x2) % x3 % Go.Sx.M256 ∧ True) ∧ (((∀ (a : Option Go.Addr) (cap : Nat), (a = Option.none → (8 : Nat) = (0 : Nat) ∧ cap = (0 : Nat)) → (8 : Nat) ≤ cap → (∀ (a : Option Go.Addr) (cap : Nat), (a = Option.none → (8 : Nat) = (0 : Nat) ∧ cap = (0 : Nat)) → (8 : Nat) ≤ cap → ((∀ (_ : Nat), True) ∧ (∀ (_ : Nat), True) ∧ (Go.Sx.dgs (8 : Nat) fun (i : Nat) => Go.Sx.intsC (Go.Sx.SC.val (Go.Value.int Go.IntKind.u64 (Go.Sx.dg x1 i)))) ∧ (8 : Nat) ≤ (1000 : Nat) ∧ (Go.Sx.dgs (8 : Nat) fun (i : Nat) => Go.Sx.intsC (Go.Sx.SC.val (Go.Value.int Go.IntKind.u64 (Go.Sx.dg x2 i)))) ∧ (8 : Nat) ≤ (1000 : Nat) ∧ ∀ (a : Option Go.Addr) (cap : Nat), (a = Option.none → (9 : Nat) = (0 : Nat) ∧ cap = (0 : Nat)) → (9 : Nat) ≤ cap → (∀ (_ : Nat), True) ∧ (Go.Sx.dgs (9 : Nat) fun (i : Nat) => Go.Sx.intsC (Go.Sx.SC.val (Go.Value.int Go.IntKind.u64 (Go.Sx.dg ((Go.Sx.vn (8 : Nat) fun (i : Nat) => Go.Sx.intsC (Go.Sx.SC.val (Go.Value.int Go.IntKind.u64 (Go.Sx.dg x1 i)))) + Go.Sx.vn (8 : Nat) fun (i : Nat) => Go.Sx.intsC (Go.Sx.SC.val (Go.Value.int Go.IntKind.u64 (Go.Sx.dg x2 i)))) i)))) ∧ (9 : Nat) ≤ (1000 : Nat) ∧ x3 ≠ (0 : Nat) ∧ (Go.Sx.vn (9 : Nat) fun (i : Nat) => Go.Sx.dg ((Go.Sx.vn (8 : Nat) fun (i : Nat) => Go.Sx.dg x1 i) + Go.Sx.vn (8 : Nat) fun (i : Nat) => Go.Sx.dg x2 i) i) % x3 % Go.Sx.M256 = (x1 + x2) % x3 % Go.Sx.M256 ∧ True) ∧ (∀ (_ : Nat), True) ∧ (∀ (_ : Nat), True) ∧ (Go.Sx.dgs (8 : Nat) fun (i : Nat) => Go.Sx.intsC (Go.Sx.SC.val (Go.Value.int Go.IntKind.u64 (Go.Sx.dg x1 i)))) ∧ (8 : Nat) ≤ (1000 : Nat) ∧ (Go.Sx.dgs (8 : Nat) fun (i : Nat) => Go.Sx.intsC (Go.Sx.SC.val (Go.Value.int Go.IntKind.u64 (Go.Sx.dg x2 i)))) ∧ (8 : Nat) ≤ (1000 : Nat) ∧ ∀ (a : Option Go.Addr) (cap : Nat), (a = Option.none → (9 : Nat) = (0 : Nat) ∧ cap = (0 : Nat)) → (9 : Nat) ≤ cap → (∀ (_ : Nat), True) ∧ (Go.Sx.dgs (9 : Nat) fun (i : Nat) => Go.Sx.intsC (Go.Sx.SC.val (Go.Value.int Go.IntKind.u64 (Go.Sx.dg ((Go.Sx.vn (8 : Nat) fun (i : Nat) => Go.Sx.intsC (Go.Sx.SC.val (Go.Value.int Go.IntKind.u64 (Go.Sx.dg x1 i)))) + Go.Sx.vn (8 : Nat) fun (i : Nat) => Go.Sx.intsC (Go.Sx.SC.val (Go.Value.int Go.IntKind.u64 (Go.Sx.dg x2 i)))) i)))) ∧ (9 : Nat) ≤ (1000 : Nat) ∧ x3 ≠ (0 : Nat) ∧ (Go.Sx.vn (9 : Nat) fun (i : Nat) => Go.Sx.dg ((Go.Sx.vn (8 : Nat) fun (i : Nat) => Go.Sx.dg x1 i) + Go.Sx.vn (8 : Nat) fun (i : Nat) => Go.Sx.dg x2 i) i) % x3 % Go.Sx.M256 = (x1 + x2) % x3 % Go.Sx.M256 ∧ True) ∧ ∀ (a : Option Go.Addr) (cap : Nat), (a = Option.none → (8 : Nat) = (0 : Nat) ∧ cap = (0 : Nat)) → (8 : Nat) ≤ cap → (∀ (_ : Nat), True) ∧ (∀ (_ : Nat), True) ∧ (Go.Sx.dgs (8 : Nat) fun (i : Nat) => Go.Sx.intsC (Go.Sx.SC.val (Go.Value.int Go.IntKind.u64 (Go.Sx.dg x1 i)))) ∧ (8 : Nat) ≤ (1000 : Nat) ∧ (Go.Sx.dgs (8 : Nat) fun (i : Nat) => Go.Sx.intsC (Go.Sx.SC.val (Go.Value.int Go.IntKind.u64 (Go.Sx.dg x2 i)))) ∧ (8 : Nat) ≤ (1000 : Nat) ∧ ∀ (a : Option Go.Addr) (cap : Nat), (a = Option.none → (9 : Nat) = (0 : Nat) ∧ cap = (0 : Nat)) → (9 : Nat) ≤ cap → (∀ (_ : Nat), True) ∧ (Go.Sx.dgs (9 : Nat) fun (i : Nat) => Go.Sx.intsC (Go.Sx.SC.val (Go.Value.int Go.IntKind.u64 (Go.Sx.dg ((Go.Sx.vn (8 : Nat) fun (i : Nat) => Go.Sx.intsC (Go.Sx.SC.val (Go.Value.int Go.IntKind.u64 (Go.Sx.dg x1 i)))) + Go.Sx.vn (8 : Nat) fun (i : Nat) => Go.Sx.intsC (Go.Sx.SC.val (Go.Value.int Go.IntKind.u64 (Go.Sx.dg x2 i)))) i)))) ∧ (9 : Nat) ≤ (1000 : Nat) ∧ x3 ≠ (0 : Nat) ∧ (Go.Sx.vn (9 : Nat) fun (i : Nat) => Go.Sx.dg ((Go.Sx.vn (8 : Nat) fun (i : Nat) => Go.Sx.dg x1 i) + Go.Sx.vn (8 : Nat) fun (i : Nat) => Go.Sx.dg x2 i) i) % x3 % Go.Sx.M256 = (x1 + x2) % x3 % Go.Sx.M256 ∧ True) ∧ ∀ (a : Option Go.Addr) (cap : Nat), (a = Option.none → (8 : Nat) = (0 : Nat) ∧ cap = (0 : Nat)) → (8 : Nat) ≤ cap → ∀ (a : Option Go.Addr) (cap : Nat), (a = Option.none → (8 : Nat) = (0 : Nat) ∧ cap = (0 : Nat)) → (8 : Nat) ≤ cap → (∀ (_ : Nat), True) ∧ (∀ (_ : Nat), True) ∧ (Go.Sx.dgs (8 : Nat) fun (i : Nat) => Go.Sx.intsC (Go.Sx.SC.val (Go.Value.int Go.IntKind.u64 (Go.Sx.dg x1 i)))) ∧ (8 : Nat) ≤ (1000 : Nat) ∧ (Go.Sx.dgs (8 : Nat) fun (i : Nat) => Go.Sx.intsC (Go.Sx.SC.val (Go.Value.int Go.IntKind.u64 (Go.Sx.dg x2 i)))) ∧ (8 : Nat) ≤ (1000 : Nat) ∧ ∀ (a : Option Go.Addr) (cap : Nat), (a = Option.none → (9 : Nat) = (0 : Nat) ∧ cap = (0 : Nat)) → (9 : Nat) ≤ cap → (∀ (_ : Nat), True) ∧ (Go.Sx.dgs (9 : Nat) fun (i : Nat) => Go.Sx.intsC (Go.Sx.SC.val (Go.Value.int Go.IntKind.u64 (Go.Sx.dg ((Go.Sx.vn (8 : Nat) fun (i : Nat) => Go.Sx.intsC (Go.Sx.SC.val (Go.Value.int Go.IntKind.u64 (Go.Sx.dg x1 i)))) + Go.Sx.vn (8 : Nat) fun (i : Nat) => Go.Sx.intsC (Go.Sx.SC.val (Go.Value.int Go.IntKind.u64 (Go.Sx.dg x2 i)))) i)))) ∧ (9 : Nat) ≤ (1000 : Nat) ∧ x3 ≠ (0 : Nat) ∧ (Go.Sx.vn (9 : Nat) fun (i : Nat) => Go.Sx.dg ((Go.Sx.vn (8 : Nat) fun (i : Nat) => Go.Sx.dg x1 i) + Go.Sx.vn (8 : Nat) fun (i : Nat) => Go.Sx.dg x2 i) i) % x3 % Go.Sx.M256 = (x1 + x2) % x3 % Go.Sx.M256 ∧ True) ∧ ∀ (a : Option Go.Addr) (cap : Nat), (a = Option.none → (8 : Nat) = (0 : Nat) ∧ cap = (0 : Nat)) → (8 : Nat) ≤ cap → ∀ (a : Option Go.Addr) (cap : Nat), (a = Option.none → (8 : Nat) = (0 : Nat) ∧ cap = (0 : Nat)) → (8 : Nat) ≤ cap → (∀ (_ : Nat), True) ∧ (∀ (_ : Nat), True) ∧ (Go.Sx.dgs (8 : Nat) fun (i : Nat) => Go.Sx.intsC (Go.Sx.SC.val (Go.Value.int Go.IntKind.u64 (Go.Sx.dg x1 i)))) ∧ (8 : Nat) ≤ (1000 : Nat) ∧ (Go.Sx.dgs (8 : Nat) fun (i : Nat) => Go.Sx.intsC (Go.Sx.SC.val (Go.Value.int Go.IntKind.u64 (Go.Sx.dg x2 i)))) ∧ (8 : Nat) ≤ (1000 : Nat) ∧ ∀ (a : Option Go.Addr) (cap : Nat), (a = Option.none → (9 : Nat) = (0 : Nat) ∧ cap = (0 : Nat)) → (9 : Nat) ≤ cap → (∀ (_ : Nat), True) ∧ (Go.Sx.dgs (9 : Nat) fun (i : Nat) => Go.Sx.intsC (Go.Sx.SC.val (Go.Value.int Go.IntKind.u64 (Go.Sx.dg ((Go.Sx.vn (8 : Nat) fun (i : Nat) => Go.Sx.intsC (Go.Sx.SC.val (Go.Value.int Go.IntKind.u64 (Go.Sx.dg x1 i)))) + Go.Sx.vn (8 : Nat) fun (i : Nat) => Go.Sx.intsC (Go.Sx.SC.val (Go.Value.int Go.IntKind.u64 (Go.Sx.dg x2 i)))) i)))) ∧ (9 : Nat) ≤ (1000 : Nat) ∧ x3 ≠ (0 : Nat) ∧ (Go.Sx.vn (9 : Nat) fun (i : Nat) => Go.Sx.dg ((Go.Sx.vn (8 : Nat) fun (i : Nat) => Go.Sx.dg x1 i) + Go.Sx.vn (8 : Nat) fun (i : Nat) => Go.Sx.dg x2 i) i) % x3 % Go.Sx.M256 = (x1 + x2) % x3 % Go.Sx.M256 ∧ True) ∧ ((∀ (a : Option Go.Addr) (cap : Nat), (a = Option.none → (8 : Nat) = (0 : Nat) ∧ cap = (0 : Nat)) → (8 : Nat) ≤ cap → ∀ (a : Option Go.Addr) (cap : Nat), (a = Option.none → (8 : Nat) = (0 : Nat) ∧ cap = (0 : Nat)) → (8 : Nat) ≤ cap → (∀ (_ : Nat), True) ∧ (∀ (_ : Nat), True) ∧ (Go.Sx.dgs (8 : Nat) fun (i : Nat) => Go.Sx.intsC (Go.Sx.SC.val (Go.Value.int Go.IntKind.u64 (Go.Sx.dg x1 i)))) ∧ (8 : Nat) ≤ (1000 : Nat) ∧ (Go.Sx.dgs (8 : Nat) fun (i : Nat) => Go.Sx.intsC (Go.Sx.SC.val (Go.Value.int Go.IntKind.u64 (Go.Sx.dg x2 i)))) ∧ (8 : Nat) ≤ (1000 : Nat) ∧ ∀ (a : Option Go.Addr) (cap : Nat), (a = Option.none → (9 : Nat) = (0 : Nat) ∧ cap = (0 : Nat)) → (9 : Nat) ≤ cap → (∀ (_ : Nat), True) ∧ (Go.Sx.dgs (9 : Nat) fun (i : Nat) => Go.Sx.intsC (Go.Sx.SC.val (Go.Value.int Go.IntKind.u64 (Go.Sx.dg ((Go.Sx.vn (8 : Nat) fun (i : Nat) => Go.Sx.intsC (Go.Sx.SC.val (Go.Value.int Go.IntKind.u64 (Go.Sx.dg x1 i)))) + Go.Sx.vn (8 : Nat) fun (i : Nat) => Go.Sx.intsC (Go.Sx.SC.val (Go.Value.int Go.IntKind.u64 (Go.Sx.dg x2 i)))) i)))) ∧ (9 : Nat) ≤ (1000 : Nat) ∧ x3 ≠ (0 : Nat) ∧ (Go.Sx.vn (9 : Nat) fun (i : Nat) => Go.Sx.dg ((Go.Sx.vn (8 : Nat) fun (i : Nat) => Go.Sx.dg x1 i) + Go.Sx.vn (8 : Nat) fun (i : Nat) => Go.Sx.dg x2 i) i) % x3 % Go.Sx.M256 = (x1 + x2) % x3 % Go.Sx.M256 ∧ True) ∧ ∀ (a : Option Go.Addr) (cap : Nat), (a = Option.none → (8 : Nat) = (0 : Nat) ∧ cap = (0 : Nat)) → (8 : Nat) ≤ cap → ∀ (a : Option Go.Addr) (cap : Nat), (a = Option.none → (8 : Nat) = (0 : Nat) ∧ cap = (0 : Nat)) → (8 : Nat) ≤ cap → (∀ (_ : Nat), True) ∧ (∀ (_ : Nat), True) ∧ (Go.Sx.dgs (8 : Nat) fun (i : Nat) => Go.Sx.intsC (Go.Sx.SC.val (Go.Value.int Go.IntKind.u64 (Go.Sx.dg x1 i)))) ∧ (8 : Nat) ≤ (1000 : Nat) ∧ (Go.Sx.dgs (8 : Nat) fun (i : Nat) => Go.Sx.intsC (Go.Sx.SC.val (Go.Value.int Go.IntKind.u64 (Go.Sx.dg x2 i)))) ∧ (8 : Nat) ≤ (1000 : Nat) ∧ ∀ (a : Option Go.Addr) (cap : Nat), (a = Option.none → (9 : Nat) = (0 : Nat) ∧ cap = (0 : Nat)) → (9 : Nat) ≤ cap → (∀ (_ : Nat), True) ∧ (Go.Sx.dgs (9 : Nat) fun (i : Nat) => Go.Sx.intsC (Go.Sx.SC.val (Go.Value.int Go.IntKind.u64 (Go.Sx.dg ((Go.Sx.vn (8 : Nat) fun (i : Nat) => Go.Sx.intsC (Go.Sx.SC.val (Go.Value.int Go.IntKind.u64 (Go.Sx.dg x1 i)))) + Go.Sx.vn (8 : Nat) fun (i : Nat) => Go.Sx.intsC (Go.Sx.SC.val (Go.Value.int Go.IntKind.u64 (Go.Sx.dg x2 i)))) i)))) ∧ (9 : Nat) ≤ (1000 : Nat) ∧ x3 ≠ (0 : Nat) ∧ (Go.Sx.vn (9 : Nat) fun (i : Nat) => Go.Sx.dg ((Go.Sx.vn (8 : Nat) fun (i : Nat) => Go.Sx.dg x1 i) + Go.Sx.vn (8 : Nat) fun (i : Nat) => Go.Sx.dg x2 i) i) % x3 % Go.Sx.M256 = (x1 + x2) % x3 % Go.Sx.M256 ∧ True) ∧ ∀ (a : Option Go.Addr) (cap : Nat), (a = Option.none → (8 : Nat) = (0 : Nat) ∧ cap = (0 : Nat)) → (8 : Nat) ≤ cap → ∀ (a : Option Go.Addr) (cap : Nat), (a = Option.none → (8 : Nat) = (0 : Nat) ∧ cap = (0 : Nat)) → (8 : Nat) ≤ cap → (∀ (_ : Nat), True) ∧ (∀ (_ : Nat), True) ∧ (Go.Sx.dgs (8 : Nat) fun (i : Nat) => Go.Sx.intsC (Go.Sx.SC.val (Go.Value.int Go.IntKind.u64 (Go.Sx.dg x1 i)))) ∧ (8 : Nat) ≤ (1000 : Nat) ∧ (Go.Sx.dgs (8 : Nat) fun (i : Nat) => Go.Sx.intsC (Go.Sx.SC.val (Go.Value.int Go.IntKind.u64 (Go.Sx.dg x2 i)))) ∧ (8 : Nat) ≤ (1000 : Nat) ∧ ∀ (a : Option Go.Addr) (cap : Nat), (a = Option.none → (9 : Nat) = (0 : Nat) ∧ cap = (0 : Nat)) → (9 : Nat) ≤ cap → (∀ (_ : Nat), True) ∧ (Go.Sx.dgs (9 : Nat) fun (i : Nat) => Go.Sx.intsC (Go.Sx.SC.val (Go.Value.int Go.IntKind.u64 (Go.Sx.dg ((Go.Sx.vn (8 : Nat) fun (i : Nat) => Go.Sx.intsC (Go.Sx.SC.val (Go.Value.int Go.IntKind.u64 (Go.Sx.dg x1 i)))) + Go.Sx.vn (8 : Nat) fun (i : Nat) => Go.Sx.intsC (Go.Sx.SC.val (Go.Value.int Go.IntKind.u64 (Go.Sx.dg x2 i)))) i)))) ∧ (9 : Nat) ≤ (1000 : Nat) ∧ x3 ≠ (0 : Nat) ∧ (Go.Sx.vn (9 : Nat) fun (i : Nat) => Go.Sx.dg ((Go.Sx.vn (8 : Nat) fun (i : Nat) => Go.Sx.dg x1 i) + Go.Sx.vn (8 : Nat) fun (i : Nat) => Go.Sx.dg x2 i) i) % x3 % Go.Sx.M256 = (x1 + x2) % x3 % Go.Sx.M256 ∧ True) := by kernel_rfl
-- END VC
-- VC vc_refPro HASH e132123069220130
theorem vc_refPro (a b m : Nat) (r : Nat) :
    OwesV Try.prog .none slRest [] 4 Try.f21 [sU a, sU b, sU m] (.one (sU r)) =
    (let x1 : Bool := Go.IntKind.u64.wrap (↑(BitVec.ofInt (64 : Nat) (Go.IntKind.u64.wrap (↑(BitVec.ofInt (64 : Nat) (Go.Sx.limb m (1 : Nat)) ||| BitVec.ofInt (64 : Nat) (Go.Sx.limb m (2 : Nat))).toNat : Int)) ||| BitVec.ofInt (64 : Nat) (Go.Sx.limb m (3 : Nat))).toNat : Int) == (0 : Int); let x2 : Int := (Go.IntKind.u64.wrap (Go.Sx.limb a (0 : Nat) * Go.Sx.limb b (0 : Nat))).tmod (Go.Sx.limb m (0 : Nat)); let x3 : Nat := r % Go.Sx.M256; let x4 : Nat := m % Go.Sx.M256; (x1 = Bool.true → x1 = Bool.true) ∧ (x1 = Bool.true → x1 = Bool.true) ∧ (x1 = Bool.true → x1 = Bool.true) ∧ ((x1 && Decidable.decide (Go.Sx.limb m (0 : Nat) < (4294967296 : Int))) = Bool.true → Go.Sx.limb m (0 : Nat) ≠ (0 : Int) ∧ ((0 : Int) ≤ x2 ∧ x2 < (18446744073709551616 : Int)) ∧ ((0 : Int) ≤ (0 : Int) ∧ (0 : Int) < (18446744073709551616 : Int)) ∧ ((0 : Int) ≤ (0 : Int) ∧ (0 : Int) < (18446744073709551616 : Int)) ∧ ((0 : Int) ≤ (0 : Int) ∧ (0 : Int) < (18446744073709551616 : Int)) ∧ Go.Sx.join x2 (0 : Int) (0 : Int) (0 : Int) % Go.Sx.M256 = x3 ∧ True) ∧ ((x1 && Decidable.decide (Go.Sx.limb m (0 : Nat) < (4294967296 : Int))) = Bool.false → ((∀ (a_2 : Option Go.Addr) (cap : Nat), (a_2 = Option.none → (8 : Nat) = (0 : Nat) ∧ cap = (0 : Nat)) → (8 : Nat) ≤ cap → ((∀ (a_5 : Option Go.Addr) (cap : Nat), (a_5 = Option.none → (8 : Nat) = (0 : Nat) ∧ cap = (0 : Nat)) → (8 : Nat) ≤ cap → ((∀ (_ : Nat), True) ∧ (∀ (_ : Nat), True) ∧ (Go.Sx.dgs (8 : Nat) fun (i : Nat) => Go.Sx.intsC (Go.Sx.SC.val (Go.Value.int Go.IntKind.u64 (Go.Sx.dg (a % Go.Sx.M256) i)))) ∧ (8 : Nat) ≤ (1000 : Nat) ∧ (Go.Sx.dgs (8 : Nat) fun (i : Nat) => Go.Sx.intsC (Go.Sx.SC.val (Go.Value.int Go.IntKind.u64 (Go.Sx.dg (b % Go.Sx.M256) i)))) ∧ (8 : Nat) ≤ (1000 : Nat) ∧ ∀ (a_8 : Option Go.Addr) (cap : Nat), (a_8 = Option.none → (16 : Nat) = (0 : Nat) ∧ cap = (0 : Nat)) → (16 : Nat) ≤ cap → (∀ (_ : Nat), True) ∧ (Go.Sx.dgs (16 : Nat) fun (i : Nat) => Go.Sx.intsC (Go.Sx.SC.val (Go.Value.int Go.IntKind.u64 (Go.Sx.dg ((Go.Sx.vn (8 : Nat) fun (i : Nat) => Go.Sx.intsC (Go.Sx.SC.val (Go.Value.int Go.IntKind.u64 (Go.Sx.dg (a % Go.Sx.M256) i)))) * Go.Sx.vn (8 : Nat) fun (i : Nat) => Go.Sx.intsC (Go.Sx.SC.val (Go.Value.int Go.IntKind.u64 (Go.Sx.dg (b % Go.Sx.M256) i)))) i)))) ∧ (16 : Nat) ≤ (1000 : Nat) ∧ x4 ≠ (0 : Nat) ∧ (Go.Sx.vn (16 : Nat) fun (i : Nat) => Go.Sx.dg ((Go.Sx.vn (8 : Nat) fun (i : Nat) => Go.Sx.dg (a % Go.Sx.M256) i) * Go.Sx.vn (8 : Nat) fun (i : Nat) => Go.Sx.dg (b % Go.Sx.M256) i) i) % x4 % Go.Sx.M256 = x3 ∧ True) ∧ (∀ (_ : Nat), True) ∧ (∀ (_ : Nat), True) ∧ (Go.Sx.dgs (8 : Nat) fun (i : Nat) => Go.Sx.intsC (Go.Sx.SC.val (Go.Value.int Go.IntKind.u64 (Go.Sx.dg (a % Go.Sx.M256) i)))) ∧ (8 : Nat) ≤ (1000 : Nat) ∧ (Go.Sx.dgs (8 : Nat) fun (i : Nat) => Go.Sx.intsC (Go.Sx.SC.val (Go.Value.int Go.IntKind.u64 (Go.Sx.dg (b % Go.Sx.M256) i)))) ∧ (8 : Nat) ≤ (1000 : Nat) ∧ ∀ (a_8 : Option Go.Addr) (cap : Nat), (a_8 = Option.none → (16 : Nat) = (0 : Nat) ∧ cap = (0 : Nat)) → (16 : Nat) ≤ cap → (∀ (_ : Nat), True) ∧ (Go.Sx.dgs (16 : Nat) fun (i : Nat) => Go.Sx.intsC (Go.Sx.SC.val (Go.Value.int Go.IntKind.u64 (Go.Sx.dg ((Go.Sx.vn (8 : Nat) fun (i : Nat) => Go.Sx.intsC (Go.Sx.SC.val (Go.Value.int Go.IntKind.u64 (Go.Sx.dg (a % Go.Sx.M256) i)))) * Go.Sx.vn (8 : Nat) fun (i : Nat) => Go.Sx.intsC (Go.Sx.SC.val (Go.Value.int Go.IntKind.u64 (Go.Sx.dg (b % Go.Sx.M256) i)))) i)))) ∧ (16 : Nat) ≤ (1000 : Nat) ∧ x4 ≠ (0 : Nat) ∧ (Go.Sx.vn (16 : Nat) fun (i : Nat) => Go.Sx.dg ((Go.Sx.vn (8 : Nat) fun (i : Nat) => Go.Sx.dg (a % Go.Sx.M256) i) * Go.Sx.vn (8 : Nat) fun (i : Nat) => Go.Sx.dg (b % Go.Sx.M256) i) i) % x4 % Go.Sx.M256 = x3 ∧ True) ∧ ∀ (a_5 : Option Go.Addr) (cap : Nat), (a_5 = Option.none → (8 : Nat) = (0 : Nat) ∧ cap = (0 : Nat)) → (8 : Nat) ≤ cap → (∀ (_ : Nat), True) ∧ (∀ (_ : Nat), True) ∧ (Go.Sx.dgs (8 : Nat) fun (i : Nat) => Go.Sx.intsC (Go.Sx.SC.val (Go.Value.int Go.IntKind.u64 (Go.Sx.dg (a % Go.Sx.M256) i)))) ∧ (8 : Nat) ≤ (1000 : Nat) ∧ (Go.Sx.dgs (8 : Nat) fun (i : Nat) => Go.Sx.intsC (Go.Sx.SC.val (Go.Value.int Go.IntKind.u64 (Go.Sx.dg (b % Go.Sx.M256) i)))) ∧ (8 : Nat) ≤ (1000 : Nat) ∧ ∀ (a_8 : Option Go.Addr) (cap : Nat), (a_8 = Option.none → (16 : Nat) = (0 : Nat) ∧ cap = (0 : Nat)) → (16 : Nat) ≤ cap → (∀ (_ : Nat), True) ∧ (Go.Sx.dgs (16 : Nat) fun (i : Nat) => Go.Sx.intsC (Go.Sx.SC.val (Go.Value.int Go.IntKind.u64 (Go.Sx.dg ((Go.Sx.vn (8 : Nat) fun (i : Nat) => Go.Sx.intsC (Go.Sx.SC.val (Go.Value.int Go.IntKind.u64 (Go.Sx.dg (a % Go.Sx.M256) i)))) * Go.Sx.vn (8 : Nat) fun (i : Nat) => Go.Sx.intsC (Go.Sx.SC.val (Go.Value.int Go.IntKind.u64 (Go.Sx.dg (b % Go.Sx.M256) i)))) i)))) ∧ (16 : Nat) ≤ (1000 : Nat) ∧ x4 ≠ (0 : Nat) ∧ (Go.Sx.vn (16 : Nat) fun (i : Nat) => Go.Sx.dg ((Go.Sx.vn (8 : Nat) fun (i : Nat) => Go.Sx.dg (a % Go.Sx.M256) i) * Go.Sx.vn (8 : Nat) fun (i : Nat) => Go.Sx.dg (b % Go.Sx.M256) i) i) % x4 % Go.Sx.M256 = x3 ∧ True) ∧ ∀ (a_5 : Option Go.Addr) (cap : Nat), (a_5 = Option.none → (8 : Nat) = (0 : Nat) ∧ cap = (0 : Nat)) → (8 : Nat) ≤ cap → (∀ (_ : Nat), True) ∧ (∀ (_ : Nat), True) ∧ (Go.Sx.dgs (8 : Nat) fun (i : Nat) => Go.Sx.intsC (Go.Sx.SC.val (Go.Value.int Go.IntKind.u64 (Go.Sx.dg (a % Go.Sx.M256) i)))) ∧ (8 : Nat) ≤ (1000 : Nat) ∧ (Go.Sx.dgs (8 : Nat) fun (i : Nat) => Go.Sx.intsC (Go.Sx.SC.val (Go.Value.int Go.IntKind.u64 (Go.Sx.dg (b % Go.Sx.M256) i)))) ∧ (8 : Nat) ≤ (1000 : Nat) ∧ ∀ (a_8 : Option Go.Addr) (cap : Nat), (a_8 = Option.none → (16 : Nat) = (0 : Nat) ∧ cap = (0 : Nat)) → (16 : Nat) ≤ cap → (∀ (_ : Nat), True) ∧ (Go.Sx.dgs (16 : Nat) fun (i : Nat) => Go.Sx.intsC (Go.Sx.SC.val (Go.Value.int Go.IntKind.u64 (Go.Sx.dg ((Go.Sx.vn (8 : Nat) fun (i : Nat) => Go.Sx.intsC (Go.Sx.SC.val (Go.Value.int Go.IntKind.u64 (Go.Sx.dg (a % Go.Sx.M256) i)))) * Go.Sx.vn (8 : Nat) fun (i : Nat) => Go.Sx.intsC (Go.Sx.SC.val (Go.Value.int Go.IntKind.u64 (Go.Sx.dg (b % Go.Sx.M256) i)))) i)))) ∧ (16 : Nat) ≤ (1000 : Nat) ∧ x4 ≠ (0 : Nat) ∧ (Go.Sx.vn (16 : Nat) fun (i : Nat) => Go.Sx.dg ((Go.Sx.vn (8 : Nat) fun (i : Nat) => Go.Sx.dg (a % Go.Sx.M256) i) * Go.Sx.vn (8 : Nat) fun (i : Nat) => Go.Sx.dg (b % Go.Sx.M256) i) i) % x4 % Go.Sx.M256 = x3 ∧ True) ∧ ((∀ (a_2 : Option Go.Addr) (cap : Nat), (a_2 = Option.none → (8 : Nat) = (0 : Nat) ∧ cap = (0 : Nat)) → (8 : Nat) ≤ cap → (∀ (a_5 : Option Go.Addr) (cap : Nat), (a_5 = Option.none → (8 : Nat) = (0 : Nat) ∧ cap = (0 : Nat)) → (8 : Nat) ≤ cap → ((∀ (_ : Nat), True) ∧ (∀ (_ : Nat), True) ∧ (Go.Sx.dgs (8 : Nat) fun (i : Nat) => Go.Sx.intsC (Go.Sx.SC.val (Go.Value.int Go.IntKind.u64 (Go.Sx.dg (a % Go.Sx.M256) i)))) ∧ (8 : Nat) ≤ (1000 : Nat) ∧ (Go.Sx.dgs (8 : Nat) fun (i : Nat) => Go.Sx.intsC (Go.Sx.SC.val (Go.Value.int Go.IntKind.u64 (Go.Sx.dg (b % Go.Sx.M256) i)))) ∧ (8 : Nat) ≤ (1000 : Nat) ∧ ∀ (a_8 : Option Go.Addr) (cap : Nat), (a_8 = Option.none → (16 : Nat) = (0 : Nat) ∧ cap = (0 : Nat)) → (16 : Nat) ≤ cap → (∀ (_ : Nat), True) ∧ (Go.Sx.dgs (16 : Nat) fun (i : Nat) => Go.Sx.intsC (Go.Sx.SC.val (Go.Value.int Go.IntKind.u64 (Go.Sx.dg ((Go.Sx.vn (8 : Nat) fun (i : Nat) => Go.Sx.intsC (Go.Sx.SC.val (Go.Value.int Go.IntKind.u64 (Go.Sx.dg (a % Go.Sx.M256) i)))) * Go.Sx.vn (8 : Nat) fun (i : Nat) => Go.Sx.intsC (Go.Sx.SC.val (Go.Value.int Go.IntKind.u64 (Go.Sx.dg (b % Go.Sx.M256) i)))) i)))) ∧ (16 : Nat) ≤ (1000 : Nat) ∧ x4 ≠ (0 : Nat) ∧ (Go.Sx.vn (16 : Nat) fun (i : Nat) => Go.Sx.dg ((Go.Sx.vn (8 : Nat) fun (i : Nat) => Go.Sx.dg (a % Go.Sx.M256) i) * Go.Sx.vn (8 : Nat) fun (i : Nat) => Go.Sx.dg (b % Go.Sx.M256) i) i) % x4 % Go.Sx.M256 = x3 ∧ True) ∧ (∀ (_ : Nat), True) ∧ (∀ (_ : Nat), True) ∧ (Go.Sx.dgs (8 : Nat) fun (i : Nat) => Go.Sx.intsC (Go.Sx.SC.val (Go.Value.int Go.IntKind.u64 (Go.Sx.dg (a % Go.Sx.M256) i)))) ∧ (8 : Nat) ≤ (1000 : Nat) ∧ (Go.Sx.dgs (8 : Nat) fun (i : Nat) => Go.Sx.intsC (Go.Sx.SC.val (Go.Value.int Go.IntKind.u64 (Go.Sx.dg (b % Go.Sx.M256) i)))) ∧ (8 : Nat) ≤ (1000 : Nat) ∧ ∀ (a_8 : Option Go.Addr) (cap : Nat), (a_8 = Option.none → (16 : Nat) = (0 : Nat) ∧ cap = (0 : Nat)) → (16 : Nat) ≤ cap → (∀ (_ : Nat), True) ∧ (Go.Sx.dgs (16 : Nat) fun (i : Nat) => Go.Sx.intsC (Go.Sx.SC.val (Go.Value.int Go.IntKind.u64 (Go.Sx.dg ((Go.Sx.vn (8 : Nat) fun (i : Nat) => Go.Sx.intsC (Go.Sx.SC.val (Go.Value.int Go.IntKind.u64 (Go.Sx.dg (a % Go.Sx.M256) i)))) * Go.Sx.vn (8 : Nat) fun (i : Nat) => Go.Sx.intsC (Go.Sx.SC.val (Go.Value.int Go.IntKind.u64 (Go.Sx.dg (b % Go.Sx.M256) i)))) i)))) ∧ (16 : Nat) ≤ (1000 : Nat) ∧ x4 ≠ (0 : Nat) ∧ (Go.Sx.vn (16 : Nat) fun (i : Nat) => Go.Sx.dg ((Go.Sx.vn (8 : Nat) fun (i : Nat) => Go.Sx.dg (a % Go.Sx.M256) i) * Go.Sx.vn (8 : Nat) fun (i : Nat) => Go.Sx.dg (b % Go.Sx.M256) i) i) % x4 % Go.Sx.M256 = x3 ∧ True) ∧ ∀ (a_5 : Option Go.Addr) (cap : Nat), (a_5 = Option.none → (8 : Nat) = (0 : Nat) ∧ cap = (0 : Nat)) → (8 : Nat) ≤ cap → (∀ (_ : Nat), True) ∧ (∀ (_ : Nat), True) ∧ (Go.Sx.dgs (8 : Nat) fun (i : Nat) => Go.Sx.intsC (Go.Sx.SC.val (Go.Value.int Go.IntKind.u64 (Go.Sx.dg (a % Go.Sx.M256) i)))) ∧ (8 : Nat) ≤ (1000 : Nat) ∧ (Go.Sx.dgs (8 : Nat) fun (i : Nat) => Go.Sx.intsC (Go.Sx.SC.val (Go.Value.int Go.IntKind.u64 (Go.Sx.dg (b % Go.Sx.M256) i)))) ∧ (8 : Nat) ≤ (1000 : Nat) ∧ ∀ (a_8 : Option Go.Addr) (cap : Nat), (a_8 = Option.none → (16 : Nat) = (0 : Nat) ∧ cap = (0 : Nat)) → (16 : Nat) ≤ cap → (∀ (_ : Nat), True) ∧ (Go.Sx.dgs (16 : Nat) fun (i : Nat) => Go.Sx.intsC (Go.Sx.SC.val (Go.Value.int Go.IntKind.u64 (Go.Sx.dg ((Go.Sx.vn (8 : Nat) fun (i : Nat) => Go.Sx.intsC (Go.Sx.SC.val (Go.Value.int Go.IntKind.u64 (Go.Sx.dg (a % Go.Sx.M256) i)))) * Go.Sx.vn (8 : Nat) fun (i : Nat) => Go.Sx.intsC (Go.Sx.SC.val (Go.Value.int Go.IntKind.u64 (Go.Sx.dg (b % Go.Sx.M256) i)))) i)))) ∧ (16 : Nat) ≤ (1000 : Nat) ∧ x4 ≠ (0 : Nat) ∧ (Go.Sx.vn (16 : Nat) fun (i : Nat) => Go.Sx.dg ((Go.Sx.vn (8 : Nat) fun (i : Nat) => Go.Sx.dg (a % Go.Sx.M256) i) * Go.Sx.vn (8 : Nat) fun (i : Nat) => Go.Sx.dg (b % Go.Sx.M256) i) i) % x4 % Go.Sx.M256 = x3 ∧ True) ∧ ∀ (a_2 : Option Go.Addr) (cap : Nat), (a_2 = Option.none → (8 : Nat) = (0 : Nat) ∧ cap = (0 : Nat)) → (8 : Nat) ≤ cap → ∀ (a_5 : Option Go.Addr) (cap : Nat), (a_5 = Option.none → (8 : Nat) = (0 : Nat) ∧ cap = (0 : Nat)) → (8 : Nat) ≤ cap → (∀ (_ : Nat), True) ∧ (∀ (_ : Nat), True) ∧ (Go.Sx.dgs (8 : Nat) fun (i : Nat) => Go.Sx.intsC (Go.Sx.SC.val (Go.Value.int Go.IntKind.u64 (Go.Sx.dg (a % Go.Sx.M256) i)))) ∧ (8 : Nat) ≤ (1000 : Nat) ∧ (Go.Sx.dgs (8 : Nat) fun (i : Nat) => Go.Sx.intsC (Go.Sx.SC.val (Go.Value.int Go.IntKind.u64 (Go.Sx.dg (b % Go.Sx.M256) i)))) ∧ (8 : Nat) ≤ (1000 : Nat) ∧ ∀ (a_8 : Option Go.Addr) (cap : Nat), (a_8 = Option.none → (16 : Nat) = (0 : Nat) ∧ cap = (0 : Nat)) → (16 : Nat) ≤ cap → (∀ (_ : Nat), True) ∧ (Go.Sx.dgs (16 : Nat) fun (i : Nat) => Go.Sx.intsC (Go.Sx.SC.val (Go.Value.int Go.IntKind.u64 (Go.Sx.dg ((Go.Sx.vn (8 : Nat) fun (i : Nat) => Go.Sx.intsC (Go.Sx.SC.val (Go.Value.int Go.IntKind.u64 (Go.Sx.dg (a % Go.Sx.M256) i)))) * Go.Sx.vn (8 : Nat) fun (i : Nat) => Go.Sx.intsC (Go.Sx.SC.val (Go.Value.int Go.IntKind.u64 (Go.Sx.dg (b % Go.Sx.M256) i)))) i)))) ∧ (16 : Nat) ≤ (1000 : Nat) ∧ x4 ≠ (0 : Nat) ∧ (Go.Sx.vn (16 : Nat) fun (i : Nat) => Go.Sx.dg ((Go.Sx.vn (8 : Nat) fun (i : Nat) => Go.Sx.dg (a % Go.Sx.M256) i) * Go.Sx.vn (8 : Nat) fun (i : Nat) => Go.Sx.dg (b % Go.Sx.M256) i) i) % x4 % Go.Sx.M256 = x3 ∧ True) ∧ (∀ (a_2 : Option Go.Addr) (cap : Nat), (a_2 = Option.none → (8 : Nat) = (0 : Nat) ∧ cap = (0 : Nat)) → (8 : Nat) ≤ cap → ∀ (a_5 : Option Go.Addr) (cap : Nat), (a_5 = Option.none → (8 : Nat) = (0 : Nat) ∧ cap = (0 : Nat)) → (8 : Nat) ≤ cap → (∀ (_ : Nat), True) ∧ (∀ (_ : Nat), True) ∧ (Go.Sx.dgs (8 : Nat) fun (i : Nat) => Go.Sx.intsC (Go.Sx.SC.val (Go.Value.int Go.IntKind.u64 (Go.Sx.dg (a % Go.Sx.M256) i)))) ∧ (8 : Nat) ≤ (1000 : Nat) ∧ (Go.Sx.dgs (8 : Nat) fun (i : Nat) => Go.Sx.intsC (Go.Sx.SC.val (Go.Value.int Go.IntKind.u64 (Go.Sx.dg (b % Go.Sx.M256) i)))) ∧ (8 : Nat) ≤ (1000 : Nat) ∧ ∀ (a_8 : Option Go.Addr) (cap : Nat), (a_8 = Option.none → (16 : Nat) = (0 : Nat) ∧ cap = (0 : Nat)) → (16 : Nat) ≤ cap → (∀ (_ : Nat), True) ∧ (Go.Sx.dgs (16 : Nat) fun (i : Nat) => Go.Sx.intsC (Go.Sx.SC.val (Go.Value.int Go.IntKind.u64 (Go.Sx.dg ((Go.Sx.vn (8 : Nat) fun (i : Nat) => Go.Sx.intsC (Go.Sx.SC.val (Go.Value.int Go.IntKind.u64 (Go.Sx.dg (a % Go.Sx.M256) i)))) * Go.Sx.vn (8 : Nat) fun (i : Nat) => Go.Sx.intsC (Go.Sx.SC.val (Go.Value.int Go.IntKind.u64 (Go.Sx.dg (b % Go.Sx.M256) i)))) i)))) ∧ (16 : Nat) ≤ (1000 : Nat) ∧ x4 ≠ (0 : Nat) ∧ (Go.Sx.vn (16 : Nat) fun (i : Nat) => Go.Sx.dg ((Go.Sx.vn (8 : Nat) fun (i : Nat) => Go.Sx.dg (a % Go.Sx.M256) i) * Go.Sx.vn (8 : Nat) fun (i : Nat) => Go.Sx.dg (b % Go.Sx.M256) i) i) % x4 % Go.Sx.M256 = x3 ∧ True) ∧ ∀ (a_2 : Option Go.Addr) (cap : Nat), (a_2 = Option.none → (8 : Nat) = (0 : Nat) ∧ cap = (0 : Nat)) → (8 : Nat) ≤ cap → ∀ (a_5 : Option Go.Addr) (cap : Nat), (a_5 = Option.none → (8 : Nat) = (0 : Nat) ∧ cap = (0 : Nat)) → (8 : Nat) ≤ cap → (∀ (_ : Nat), True) ∧ (∀ (_ : Nat), True) ∧ (Go.Sx.dgs (8 : Nat) fun (i : Nat) => Go.Sx.intsC (Go.Sx.SC.val (Go.Value.int Go.IntKind.u64 (Go.Sx.dg (a % Go.Sx.M256) i)))) ∧ (8 : Nat) ≤ (1000 : Nat) ∧ (Go.Sx.dgs (8 : Nat) fun (i : Nat) => Go.Sx.intsC (Go.Sx.SC.val (Go.Value.int Go.IntKind.u64 (Go.Sx.dg (b % Go.Sx.M256) i)))) ∧ (8 : Nat) ≤ (1000 : Nat) ∧ ∀ (a_8 : Option Go.Addr) (cap : Nat), (a_8 = Option.none → (16 : Nat) = (0 : Nat) ∧ cap = (0 : Nat)) → (16 : Nat) ≤ cap → (∀ (_ : Nat), True) ∧ (Go.Sx.dgs (16 : Nat) fun (i : Nat) => Go.Sx.intsC (Go.Sx.SC.val (Go.Value.int Go.IntKind.u64 (Go.Sx.dg ((Go.Sx.vn (8 : Nat) fun (i : Nat) => Go.Sx.intsC (Go.Sx.SC.val (Go.Value.int Go.IntKind.u64 (Go.Sx.dg (a % Go.Sx.M256) i)))) * Go.Sx.vn (8 : Nat) fun (i : Nat) => Go.Sx.intsC (Go.Sx.SC.val (Go.Value.int Go.IntKind.u64 (Go.Sx.dg (b % Go.Sx.M256) i)))) i)))) ∧ (16 : Nat) ≤ (1000 : Nat) ∧ x4 ≠ (0 : Nat) ∧ (Go.Sx.vn (16 : Nat) fun (i : Nat) => Go.Sx.dg ((Go.Sx.vn (8 : Nat) fun (i : Nat) => Go.Sx.dg (a % Go.Sx.M256) i) * Go.Sx.vn (8 : Nat) fun (i : Nat) => Go.Sx.dg (b % Go.Sx.M256) i) i) % x4 % Go.Sx.M256 = x3 ∧ True) ∧ (((∀ (a_2 : Option Go.Addr) (cap : Nat), (a_2 = Option.none → (8 : Nat) = (0 : Nat) ∧ cap = (0 : Nat)) → (8 : Nat) ≤ cap → (∀ (a_5 : Option Go.Addr) (cap : Nat), (a_5 = Option.none → (8 : Nat) = (0 : Nat) ∧ cap = (0 : Nat)) → (8 : Nat) ≤ cap → ((∀ (_ : Nat), True) ∧ (∀ (_ : Nat), True) ∧ (Go.Sx.dgs (8 : Nat) fun (i : Nat) => Go.Sx.intsC (Go.Sx.SC.val (Go.Value.int Go.IntKind.u64 (Go.Sx.dg (a % Go.Sx.M256) i)))) ∧ (8 : Nat) ≤ (1000 : Nat) ∧ (Go.Sx.dgs (8 : Nat) fun (i : Nat) => Go.Sx.intsC (Go.Sx.SC.val (Go.Value.int Go.IntKind.u64 (Go.Sx.dg (b % Go.Sx.M256) i)))) ∧ (8 : Nat) ≤ (1000 : Nat) ∧ ∀ (a_8 : Option Go.Addr) (cap : Nat), (a_8 = Option.none → (16 : Nat) = (0 : Nat) ∧ cap = (0 : Nat)) → (16 : Nat) ≤ cap → (∀ (_ : Nat), True) ∧ (Go.Sx.dgs (16 : Nat) fun (i : Nat) => Go.Sx.intsC (Go.Sx.SC.val (Go.Value.int Go.IntKind.u64 (Go.Sx.dg ((Go.Sx.vn (8 : Nat) fun (i : Nat) => Go.Sx.intsC (Go.Sx.SC.val (Go.Value.int Go.IntKind.u64 (Go.Sx.dg (a % Go.Sx.M256) i)))) * Go.Sx.vn (8 : Nat) fun (i : Nat) => Go.Sx.intsC (Go.Sx.SC.val (Go.Value.int Go.IntKind.u64 (Go.Sx.dg (b % Go.Sx.M256) i)))) i)))) ∧ (16 : Nat) ≤ (1000 : Nat) ∧ x4 ≠ (0 : Nat) ∧ (Go.Sx.vn (16 : Nat) fun (i : Nat) => Go.Sx.dg ((Go.Sx.vn (8 : Nat) fun (i : Nat) => Go.Sx.dg (a % Go.Sx.M256) i) * Go.Sx.vn (8 : Nat) fun (i : Nat) => Go.Sx.dg (b % Go.Sx.M256) i) i) % x4 % Go.Sx.M256 = x3 ∧ True) ∧ (∀ (_ : Nat), True) ∧ (∀ (_ : Nat), True) ∧ (Go.Sx.dgs (8 : Nat) fun (i : Nat) => Go.Sx.intsC (Go.Sx.SC.val (Go.Value.int Go.IntKind.u64 (Go.Sx.dg (a % Go.Sx.M256) i)))) ∧ (8 : Nat) ≤ (1000 : Nat) ∧ (Go.Sx.dgs (8 : Nat) fun (i : Nat) => Go.Sx.intsC (Go.Sx.SC.val (Go.Value.int Go.IntKind.u64 (Go.Sx.dg (b % Go.Sx.M256) i)))) ∧ (8 : Nat) ≤ (1000 : Nat) ∧ ∀ (a_8 : Option Go.Addr) (cap : Nat), (a_8 = Option.none → (16 : Nat) = (0 : Nat) ∧ cap = (0 : Nat)) → (16 : Nat) ≤ cap → (∀ (_ : Nat), True) ∧ (Go.Sx.dgs (16 : Nat) fun (i : Nat) => Go.Sx.intsC (Go.Sx.SC.val (Go.Value.int Go.IntKind.u64 (Go.Sx.dg ((Go.Sx.vn (8 : Nat) fun (i : Nat) => Go.Sx.intsC (Go.Sx.SC.val (Go.Value.int Go.IntKind.u64 (Go.Sx.dg (a % Go.Sx.M256) i)))) * Go.Sx.vn (8 : Nat) fun (i : Nat) => Go.Sx.intsC (Go.Sx.SC.val (Go.Value.int Go.IntKind.u64 (Go.Sx.dg (b % Go.Sx.M256) i)))) i)))) ∧ (16 : Nat) ≤ (1000 : Nat) ∧ x4 ≠ (0 : Nat) ∧ (Go.Sx.vn (16 : Nat) fun (i : Nat) => Go.Sx.dg ((Go.Sx.vn (8 : Nat) fun (i : Nat) => Go.Sx.dg (a % Go.Sx.M256) i) * Go.Sx.vn (8 : Nat) fun (i : Nat) => Go.Sx.dg (b % Go.Sx.M256) i) i) % x4 % Go.Sx.M256 = x3 ∧ True) ∧ ∀ (a_5 : Option Go.Addr) (cap : Nat), (a_5 = Option.none → (8 : Nat) = (0 : Nat) ∧ cap = (0 : Nat)) → (8 : Nat) ≤ cap → (∀ (_ : Nat), True) ∧ (∀ (_ : Nat), True) ∧ (Go.Sx.dgs (8 : Nat) fun (i : Nat) => Go.Sx.intsC (Go.Sx.SC.val (Go.Value.int Go.IntKind.u64 (Go.Sx.dg (a % Go.Sx.M256) i)))) ∧ (8 : Nat) ≤ (1000 : Nat) ∧ (Go.Sx.dgs (8 : Nat) fun (i : Nat) => Go.Sx.intsC (Go.Sx.SC.val (Go.Value.int Go.IntKind.u64 (Go.Sx.dg (b % Go.Sx.M256) i)))) ∧ (8 : Nat) ≤ (1000 : Nat) ∧ ∀ (a_8 : Option Go.Addr) (cap : Nat), (a_8 = Option.none → (16 : Nat) = (0 : Nat) ∧ cap = (0 : Nat)) → (16 : Nat) ≤ cap → (∀ (_ : Nat), True) ∧ (Go.Sx.dgs (16 : Nat) fun (i : Nat) => Go.Sx.intsC (Go.Sx.SC.val (Go.Value.int Go.IntKind.u64 (Go.Sx.dg ((Go.Sx.vn (8 : Nat) fun (i : Nat) => Go.Sx.intsC (Go.Sx.SC.val (Go.Value.int Go.IntKind.u64 (Go.Sx.dg (a % Go.Sx.M256) i)))) * Go.Sx.vn (8 : Nat) fun (i : Nat) => Go.Sx.intsC (Go.Sx.SC.val (Go.Value.int Go.IntKind.u64 (Go.Sx.dg (b % Go.Sx.M256) i)))) i)))) ∧ (16 : Nat) ≤ (1000 : Nat) ∧ x4 ≠ (0 : Nat) ∧ (Go.Sx.vn (16 : Nat) fun (i : Nat) => Go.Sx.dg ((Go.Sx.vn (8 : Nat) fun (i : Nat) => Go.Sx.dg (a % Go.Sx.M256) i) * Go.Sx.vn (8 : Nat) fun (i : Nat) => Go.Sx.dg (b % Go.Sx.M256) i) i) % x4 % Go.Sx.M256 = x3 ∧ True) ∧ ∀ (a_2 : Option Go.Addr) (cap : Nat), (a_2 = Option.none → (8 : Nat) = (0 : Nat) ∧ cap = (0 : Nat)) → (8 : Nat) ≤ cap → ∀ (a_5 : Option Go.Addr) (cap : Nat), (a_5 = Option.none → (8 : Nat) = (0 : Nat) ∧ cap = (0 : Nat)) → (8 : Nat) ≤ cap → (∀ (_ : Nat), True) ∧ (∀ (_ : Nat), True) ∧ (Go.Sx.dgs (8 : Nat) fun (i : Nat) => Go.Sx.intsC (Go.Sx.SC.val (Go.Value.int Go.IntKind.u64 (Go.Sx.dg (a % Go.Sx.M256) i)))) ∧ (8 : Nat) ≤ (1000 : Nat) ∧ (Go.Sx.dgs (8 : Nat) fun (i : Nat) => Go.Sx.intsC (Go.Sx.SC.val (Go.Value.int Go.IntKind.u64 (Go.Sx.dg (b % Go.Sx.M256) i)))) ∧ (8 : Nat) ≤ (1000 : Nat) ∧ ∀ (a_8 : Option Go.Addr) (cap : Nat), (a_8 = Option.none → (16 : Nat) = (0 : Nat) ∧ cap = (0 : Nat)) → (16 : Nat) ≤ cap → (∀ (_ : Nat), True) ∧ (Go.Sx.dgs (16 : Nat) fun (i : Nat) => Go.Sx.intsC (Go.Sx.SC.val (Go.Value.int Go.IntKind.u64 (Go.Sx.dg ((Go.Sx.vn (8 : Nat) fun (i : Nat) => Go.Sx.intsC (Go.Sx.SC.val (Go.Value.int Go.IntKind.u64 (Go.Sx.dg (a % Go.Sx.M256) i)))) * Go.Sx.vn (8 : Nat) fun (i : Nat) => Go.Sx.intsC (Go.Sx.SC.val (Go.Value.int Go.IntKind.u64 (Go.Sx.dg (b % Go.Sx.M256) i)))) i)))) ∧ (16 : Nat) ≤ (1000 : Nat) ∧ x4 ≠ (0 : Nat) ∧ (Go.Sx.vn (16 : Nat) fun (i : Nat) => Go.Sx.dg ((Go.Sx.vn (8 : Nat) fun (i : Nat) => Go.Sx.dg (a % Go.Sx.M256) i) * Go.Sx.vn (8 : Nat) fun (i : Nat) => Go.Sx.dg (b % Go.Sx.M256) i) i) % x4 % Go.Sx.M256 = x3 ∧ True) ∧ ∀ (a_2 : Option Go.Addr) (cap : Nat), (a_2 = Option.none → (8 : Nat) = (0 : Nat) ∧ cap = (0 : Nat)) → (8 : Nat) ≤ cap → ∀ (a_5 : Option Go.Addr) (cap : Nat), (a_5 = Option.none → (8 : Nat) = (0 : Nat) ∧ cap = (0 : Nat)) → (8 : Nat) ≤ cap → (∀ (_ : Nat), True) ∧ (∀ (_ : Nat), True) ∧ (Go.Sx.dgs (8 : Nat) fun (i : Nat) => Go.Sx.intsC (Go.Sx.SC.val (Go.Value.int Go.IntKind.u64 (Go.Sx.dg (a % Go.Sx.M256) i)))) ∧ (8 : Nat) ≤ (1000 : Nat) ∧ (Go.Sx.dgs (8 : Nat) fun (i : Nat) => Go.Sx.intsC (Go.Sx.SC.val (Go.Value.int Go.IntKind.u64 (Go.Sx.dg (b % Go.Sx.M256) i)))) ∧ (8 : Nat) ≤ (1000 : Nat) ∧ ∀ (a_8 : Option Go.Addr) (cap : Nat), (a_8 = Option.none → (16 : Nat) = (0 : Nat) ∧ cap = (0 : Nat)) → (16 : Nat) ≤ cap → (∀ (_ : Nat), True) ∧ (Go.Sx.dgs (16 : Nat) fun (i : Nat) => Go.Sx.intsC (Go.Sx.SC.val (Go.Value.int Go.IntKind.u64 (Go.Sx.dg ((Go.Sx.vn (8 : Nat) fun (i : Nat) => Go.Sx.intsC (Go.Sx.SC.val (Go.Value.int Go.IntKind.u64 (Go.Sx.dg (a % Go.Sx.M256) i)))) * Go.Sx.vn (8 : Nat) fun (i : Nat) => Go.Sx.intsC (Go.Sx.SC.val (Go.Value.int Go.IntKind.u64 (Go.Sx.dg (b % Go.Sx.M256) i)))) i)))) ∧ (16 : Nat) ≤ (1000 : Nat) ∧ x4 ≠ (0 : Nat) ∧ (Go.Sx.vn (16 : Nat) fun (i : Nat) => Go.Sx.dg ((Go.Sx.vn (8 : Nat) fun (i : Nat) => Go.Sx.dg (a % Go.Sx.M256) i) * Go.Sx.vn (8 : Nat) fun (i : Nat) => Go.Sx.dg (b % Go.Sx.M256) i) i) % x4 % Go.Sx.M256 = x3 ∧ True) ∧ ((∀ (a_2 : Option Go.Addr) (cap : Nat), (a_2 = Option.none → (8 : Nat) = (0 : Nat) ∧ cap = (0 : Nat)) → (8 : Nat) ≤ cap → ∀ (a_5 : Option Go.Addr) (cap : Nat), (a_5 = Option.none → (8 : Nat) = (0 : Nat) ∧ cap = (0 : Nat)) → (8 : Nat) ≤ cap → (∀ (_ : Nat), True) ∧ (∀ (_ : Nat), True) ∧ (Go.Sx.dgs (8 : Nat) fun (i : Nat) => Go.Sx.intsC (Go.Sx.SC.val (Go.Value.int Go.IntKind.u64 (Go.Sx.dg (a % Go.Sx.M256) i)))) ∧ (8 : Nat) ≤ (1000 : Nat) ∧ (Go.Sx.dgs (8 : Nat) fun (i : Nat) => Go.Sx.intsC (Go.Sx.SC.val (Go.Value.int Go.IntKind.u64 (Go.Sx.dg (b % Go.Sx.M256) i)))) ∧ (8 : Nat) ≤ (1000 : Nat) ∧ ∀ (a_8 : Option Go.Addr) (cap : Nat), (a_8 = Option.none → (16 : Nat) = (0 : Nat) ∧ cap = (0 : Nat)) → (16 : Nat) ≤ cap → (∀ (_ : Nat), True) ∧ (Go.Sx.dgs (16 : Nat) fun (i : Nat) => Go.Sx.intsC (Go.Sx.SC.val (Go.Value.int Go.IntKind.u64 (Go.Sx.dg ((Go.Sx.vn (8 : Nat) fun (i : Nat) => Go.Sx.intsC (Go.Sx.SC.val (Go.Value.int Go.IntKind.u64 (Go.Sx.dg (a % Go.Sx.M256) i)))) * Go.Sx.vn (8 : Nat) fun (i : Nat) => Go.Sx.intsC (Go.Sx.SC.val (Go.Value.int Go.IntKind.u64 (Go.Sx.dg (b % Go.Sx.M256) i)))) i)))) ∧ (16 : Nat) ≤ (1000 : Nat) ∧ x4 ≠ (0 : Nat) ∧ (Go.Sx.vn (16 : Nat) fun (i : Nat) => Go.Sx.dg ((Go.Sx.vn (8 : Nat) fun (i : Nat) => Go.Sx.dg (a % Go.Sx.M256) i) * Go.Sx.vn (8 : Nat) fun (i : Nat) => Go.Sx.dg (b % Go.Sx.M256) i) i) % x4 % Go.Sx.M256 = x3 ∧ True) ∧ ∀ (a_2 : Option Go.Addr) (cap : Nat), (a_2 = Option.none → (8 : Nat) = (0 : Nat) ∧ cap = (0 : Nat)) → (8 : Nat) ≤ cap → ∀ (a_5 : Option Go.Addr) (cap : Nat), (a_5 = Option.none → (8 : Nat) = (0 : Nat) ∧ cap = (0 : Nat)) → (8 : Nat) ≤ cap → (∀ (_ : Nat), True) ∧ (∀ (_ : Nat), True) ∧ (Go.Sx.dgs (8 : Nat) fun (i : Nat) => Go.Sx.intsC (Go.Sx.SC.val (Go.Value.int Go.IntKind.u64 (Go.Sx.dg (a % Go.Sx.M256) i)))) ∧ (8 : Nat) ≤ (1000 : Nat) ∧ (Go.Sx.dgs (8 : Nat) fun (i : Nat) => Go.Sx.intsC (Go.Sx.SC.val (Go.Value.int Go.IntKind.u64 (Go.Sx.dg (b % Go.Sx.M256) i)))) ∧ (8 : Nat) ≤ (1000 : Nat) ∧ ∀ (a_8 : Option Go.Addr) (cap : Nat), (a_8 = Option.none → (16 : Nat) = (0 : Nat) ∧ cap = (0 : Nat)) → (16 : Nat) ≤ cap → (∀ (_ : Nat), True) ∧ (Go.Sx.dgs (16 : Nat) fun (i : Nat) => Go.Sx.intsC (Go.Sx.SC.val (Go.Value.int Go.IntKind.u64 (Go.Sx.dg ((Go.Sx.vn (8 : Nat) fun (i : Nat) => Go.Sx.intsC (Go.Sx.SC.val (Go.Value.int Go.IntKind.u64 (Go.Sx.dg (a % Go.Sx.M256) i)))) * Go.Sx.vn (8 : Nat) fun (i : Nat) => Go.Sx.intsC (Go.Sx.SC.val (Go.Value.int Go.IntKind.u64 (Go.Sx.dg (b % Go.Sx.M256) i)))) i)))) ∧ (16 : Nat) ≤ (1000 : Nat) ∧ x4 ≠ (0 : Nat) ∧ (Go.Sx.vn (16 : Nat) fun (i : Nat) => Go.Sx.dg ((Go.Sx.vn (8 : Nat) fun (i : Nat) => Go.Sx.dg (a % Go.Sx.M256) i) * Go.Sx.vn (8 : Nat) fun (i : Nat) => Go.Sx.dg (b % Go.Sx.M256) i) i) % x4 % Go.Sx.M256 = x3 ∧ True) ∧ ∀ (a_2 : Option Go.Addr) (cap : Nat), (a_2 = Option.none → (8 : Nat) = (0 : Nat) ∧ cap = (0 : Nat)) → (8 : Nat) ≤ cap → ∀ (a_5 : Option Go.Addr) (cap : Nat), (a_5 = Option.none → (8 : Nat) = (0 : Nat) ∧ cap = (0 : Nat)) → (8 : Nat) ≤ cap → (∀ (_ : Nat), True) ∧ (∀ (_ : Nat), True) ∧ (Go.Sx.dgs (8 : Nat) fun (i : Nat) => Go.Sx.intsC (Go.Sx.SC.val (Go.Value.int Go.IntKind.u64 (Go.Sx.dg (a % Go.Sx.M256) i)))) ∧ (8 : Nat) ≤ (1000 : Nat) ∧ (Go.Sx.dgs (8 : Nat) fun (i : Nat) => Go.Sx.intsC (Go.Sx.SC.val (Go.Value.int Go.IntKind.u64 (Go.Sx.dg (b % Go.Sx.M256) i)))) ∧ (8 : Nat) ≤ (1000 : Nat) ∧ ∀ (a_8 : Option Go.Addr) (cap : Nat), (a_8 = Option.none → (16 : Nat) = (0 : Nat) ∧ cap = (0 : Nat)) → (16 : Nat) ≤ cap → (∀ (_ : Nat), True) ∧ (Go.Sx.dgs (16 : Nat) fun (i : Nat) => Go.Sx.intsC (Go.Sx.SC.val (Go.Value.int Go.IntKind.u64 (Go.Sx.dg ((Go.Sx.vn (8 : Nat) fun (i : Nat) => Go.Sx.intsC (Go.Sx.SC.val (Go.Value.int Go.IntKind.u64 (Go.Sx.dg (a % Go.Sx.M256) i)))) * Go.Sx.vn (8 : Nat) fun (i : Nat) => Go.Sx.intsC (Go.Sx.SC.val (Go.Value.int Go.IntKind.u64 (Go.Sx.dg (b % Go.Sx.M256) i)))) i)))) ∧ (16 : Nat) ≤ (1000 : Nat) ∧ x4 ≠ (0 : Nat) ∧ (Go.Sx.vn (16 : Nat) fun (i : Nat) => Go.Sx.dg ((Go.Sx.vn (8 : Nat) fun (i : Nat) => Go.Sx.dg (a % Go.Sx.M256) i) * Go.Sx.vn (8 : Nat) fun (i : Nat) => Go.Sx.dg (b % Go.Sx.M256) i) i) % x4 % Go.Sx.M256 = x3 ∧ True)) := by kernel_rfl
-- END VC
end Go.Proofs.Ytjokmekclibpmaa
end

section
/-
  The reference's wide numbers, and those by a modulus.
-/
namespace Go.Proofs.Ytjokmekclibpmaa
open Go Go.Sx Go.RowKit

theorem vn8 {X : Nat} (h : X < M256) : vn 8 (fun i => dg X i) = X := vn_dg' (n := 8) h
theorem vnk {k X : Nat} (h : X < 4294967296 ^ k) : vn k (fun i => dg X i) = X := vn_dg' h
theorem modM (a : Nat) : a % M256 < M256 := Nat.mod_lt _ (by decide)
theorem M9 : (4294967296 : Nat) ^ 9 = M256 * 4294967296 := rfl
theorem M16 : (4294967296 : Nat) ^ 16 = M256 * M256 := rfl

theorem ok_refOrd (a b : Nat) : OwesV Try.prog .none slAll [] 4 Try.f19 [sU a, sU b] (ordG a b) := by
  rw [vc_refOrd]
  intro x1 x2
  have h1 : x1 < M256 := modM a
  have h2 : x2 < M256 := modM b
  have T : ∀ i : Nat, True := fun _ => trivial
  have key : cmpI (vn 8 fun i => dg x1 i) (vn 8 fun i => dg x2 i) = cmpI x1 x2 := by rw [vn8 h1, vn8 h2]
  clear_value x1 x2
  repeat' (first | exact T | exact key | exact dgs_dg _ _ | exact (show (8 : Nat) ≤ 1000 by decide) | (intro _ _ _ _) | (refine And.intro ?_ ?_))
end Go.Proofs.Ytjokmekclibpmaa
end

section
/-
  The reference's quotients, and numbers by a modulus.
-/
namespace Go.Proofs.Ytjokmekclibpmaa
open Go Go.Sx Go.RowKit

theorem remL_lt {X Y n : Nat} (hX : X < 4294967296 ^ n) (hY : 0 < Y) : X % Y < 4294967296 ^ remL X Y n := by
  unfold remL
  have hm := Nat.mod_lt X hY
  by_cases h : Y < 4294967296
  · rw [if_pos h]; omega
  · rw [if_neg h]
    by_cases h0 : n = 0
    · subst h0
      rw [if_pos rfl]
      have : X = 0 := by simpa using hX
      subst this
      rw [Nat.zero_mod]; decide
    · rw [if_neg h0]
      obtain ⟨_, e⟩ := quo_digit (X := X) (k := 0) hY
      rw [Nat.pow_zero, Nat.div_one, Nat.zero_add, Nat.pow_one] at e
      have hr := dg_range X 0
      have hl := lenDg_lt (X / 4294967296 % Y)
      rw [e, Nat.add_comm 1, Nat.pow_succ]
      refine Nat.lt_of_le_of_lt (Nat.mod_le _ _) ?_
      have : (X / 4294967296 % Y + 1) * 4294967296 ≤ 4294967296 ^ lenDg (X / 4294967296 % Y) * 4294967296 := Nat.mul_le_mul_right _ hl
      omega
theorem remL_le {X Y n : Nat} (hY : 0 < Y) (hYM : Y < M256) : remL X Y n ≤ 9 := by
  unfold remL
  split
  · decide
  · split
    · decide
    · have : lenDg (X / 4294967296 % Y) ≤ 8 := lenDg_le (Nat.lt_trans (Nat.mod_lt _ hY) hYM)
      omega
theorem ok_refRest (a : Option Addr) (n c : Nat) (f : Nat → Int) (m : Nat) (hf : dgs n f) (hn : n ≤ 1000) (hm : m % M256 ≠ 0) : OwesR Try.prog .none slAll [] 4 Try.f46 [xsI a n c .u64 f, sU m] false (restUR n f m) := by
  rw [vc_refRest]
  intro x1 x2 x3 x4 x5
  have hb : x1 < M256 := modM m
  have E2 : x2 = x1 := vn8 hb
  have E3 : x3 = remL (vn n f) x2 n := rfl
  have T : ∀ i : Nat, True := fun _ => trivial
  have hx : x1 ≠ 0 := hm
  have K1 : x2 ≠ 0 := by rw [E2]; exact hx
  have K2 : x3 ≤ 1000 := by
    have := remL_le (X := vn n f) (n := n) (show 0 < x2 by omega) (by omega)
    omega
  have F : (vn x3 fun i => dg ((vn n fun i => f i) % x2) i) % M256 % M256 = vn n f % x1 % M256 ∧ True := by
    rw [E3, show (fun i => f i) = f from rfl, vnk (remL_lt (vn_lt hf) (by omega)), E2, Nat.mod_mod]
    exact ⟨rfl, trivial⟩
  clear E2 E3
  clear_value x1 x2 x3 x4 x5
  repeat' (first | exact T | exact K1 | exact K2 | exact F | exact hf | exact hn | exact dgs_dg _ _ | exact (show (8 : Nat) ≤ 1000 by decide) | exact (show (8 : Nat) ≤ 900 by decide) | (intro _ _ _ _) | (refine And.intro ?_ ?_) | (intro _))
theorem card_refRest : FnOKs Try.prog [] 46 (specDU restUC restUR) :=
  FnOKs_DU (iv := fun _ _ _ _ _ => []) cx_none sl_all Try.func46 (by kernel_rfl) (by kernel_rfl) (fun _ _ _ x hx => by simp only [restUR, List.mem_singleton] at hx; subst hx; exact bnd_Un _) fun a n c f m ⟨h1, h2, h3, _⟩ => ok_refRest a n c f m h1 h2 h3
theorem sl_rest : ∀ p ∈ slRest, FnOKs Try.prog [] p.1 p.2 := fun p hp => by
  rcases List.mem_cons.1 hp with rfl | hp
  · exact card_refRest
  · exact sl_all p hp
end Go.Proofs.Ytjokmekclibpmaa
end

section
/-
  The reference's numbers by a modulus: sums, differences and products.
-/
namespace Go.Proofs.Ytjokmekclibpmaa
open Go Go.Sx Go.RowKit

theorem ok_refTot (a b m : Nat) (hm : m % M256 ≠ 0) : OwesV Try.prog .none slRest [] 4 Try.f20 [sU a, sU b, sU m] (totG a b m) := by
  rw [vc_refTot]
  intro x1 x2 x3
  have h1 : x1 < M256 := modM a
  have h2 : x2 < M256 := modM b
  have T : ∀ i : Nat, True := fun _ => trivial
  have K : x3 ≠ 0 := hm
  have F : (vn 9 fun i => dg ((vn 8 fun i => dg x1 i) + vn 8 fun i => dg x2 i) i) % x3 % M256 = (x1 + x2) % x3 % M256 ∧ True := by
    rw [vn8 h1, vn8 h2, vnk (by rw [M9]; omega)]
    exact ⟨rfl, trivial⟩
  clear_value x1 x2 x3
  repeat' (first | exact T | exact K | exact F | exact dgs_dg _ _ | exact (show (8 : Nat) ≤ 1000 by decide) | exact (show (9 : Nat) ≤ 1000 by decide) | (intro _ _ _ _) | (refine And.intro ?_ ?_))
theorem or_zero {a b c : Int} (ha : 0 ≤ a ∧ a < 18446744073709551616) (hb : 0 ≤ b ∧ b < 18446744073709551616) (hc : 0 ≤ c ∧ c < 18446744073709551616)
    (h : (IntKind.u64.wrap (↑(BitVec.ofInt 64 (IntKind.u64.wrap (↑(BitVec.ofInt 64 a ||| BitVec.ofInt 64 b).toNat)) ||| BitVec.ofInt 64 c).toNat) == 0) = true) : a = 0 ∧ b = 0 ∧ c = 0 := by
  have h := eq_of_beq h
  have l : ∀ x : BitVec 64, IntKind.u64.wrap (x.toNat : Int) = (x.toNat : Int) := fun x => wrap64 ⟨Int.natCast_nonneg _, by have := x.isLt; omega⟩
  have e : ∀ x : BitVec 64, BitVec.ofInt 64 (x.toNat : Int) = x := fun x => by
    apply BitVec.eq_of_toNat_eq
    rw [BitVec.toNat_ofInt]
    have := x.isLt
    omega
  rw [l, l, e] at h
  have h : (BitVec.ofInt 64 a ||| BitVec.ofInt 64 b) ||| BitVec.ofInt 64 c = 0#64 := by
    apply BitVec.eq_of_toNat_eq
    show _ = 0
    omega
  rw [BitVec.or_eq_zero_iff, BitVec.or_eq_zero_iff] at h
  have z : ∀ y : Int, 0 ≤ y ∧ y < 18446744073709551616 → BitVec.ofInt 64 y = 0#64 → y = 0 := fun y hy h => by
    have := congrArg BitVec.toNat h
    rw [BitVec.toNat_ofInt] at this
    simp at this
    omega
  exact ⟨z a ha h.1.1, z b hb h.1.2, z c hc h.2⟩
theorem limb_range (a i : Nat) : 0 ≤ limb a i ∧ limb a i < 18446744073709551616 := ⟨limb_nonneg a i, limb_lt a i⟩
theorem small_modD {m : Nat} (h1 : limb m 1 = 0) (h2 : limb m 2 = 0) (h3 : limb m 3 = 0) : ((m % M256 : Nat) : Int) = limb m 0 := by
  have := join_limbs m
  rw [h1, h2, h3] at this
  unfold join at this
  have r := limb_range m 0
  omega
theorem small_limb {a : Nat} (h : a % M256 < 18446744073709551616) : limb a 0 = ((a % M256 : Nat) : Int) := by
  have := join_limbs a
  unfold join at this
  have r0 := limb_range a 0
  have r1 := limb_range a 1
  have r2 := limb_range a 2
  have r3 := limb_range a 3
  omega
theorem ok_refPro (a b m : Nat) (hm : m % M256 ≠ 0) (ha : a % M256 < m % M256) (hb : b % M256 < m % M256) : OwesV Try.prog .none slRest [] 4 Try.f21 [sU a, sU b, sU m] (proG a b m) := by
  unfold proG
  rw [vc_refPro]
  intro x1 x2 x3 x4
  have h1 := modM a
  have h2 := modM b
  have E3 : x3 = a % M256 * (b % M256) % (m % M256) % M256 := rfl
  have E4 : x4 = m % M256 := rfl
  have E1 : x1 = (IntKind.u64.wrap (↑(BitVec.ofInt 64 (IntKind.u64.wrap (↑(BitVec.ofInt 64 (limb m 1) ||| BitVec.ofInt 64 (limb m 2)).toNat)) ||| BitVec.ofInt 64 (limb m 3)).toNat) == 0) := rfl
  have E2 : x2 = (IntKind.u64.wrap (limb a 0 * limb b 0)).tmod (limb m 0) := rfl
  have T : ∀ i : Nat, True := fun _ => trivial
  have K : x4 ≠ 0 := hm
  have Z : (0 : Int) ≤ 0 ∧ (0 : Int) < 18446744073709551616 := by decide
  have F : (vn 16 fun i => dg ((vn 8 fun i => dg (a % M256) i) * vn 8 fun i => dg (b % M256) i) i) % x4 % M256 = x3 ∧ True := by
    rw [vn8 h1, vn8 h2, vnk (by rw [M16]; exact Nat.lt_of_le_of_lt (Nat.mul_le_mul (Nat.le_of_lt h1) (Nat.le_refl _)) (Nat.mul_lt_mul_of_pos_left h2 (by decide))), E3, E4]
    exact ⟨rfl, trivial⟩
  have S : (x1 && decide (limb m 0 < 4294967296)) = true → limb m 0 ≠ 0 ∧ (0 ≤ x2 ∧ x2 < 18446744073709551616) ∧ join x2 0 0 0 % M256 = x3 ∧ True := fun h => by
    rw [Bool.and_eq_true] at h
    obtain ⟨e1, e2⟩ := h
    rw [E1] at e1
    have e2 := of_decide_eq_true e2
    obtain ⟨z1, z2, z3⟩ := or_zero (limb_range m 1) (limb_range m 2) (limb_range m 3) e1
    have em := small_modD z1 z2 z3
    have hA : a % M256 < 4294967296 := by omega
    have hB : b % M256 < 4294967296 := by omega
    have eA := small_limb (a := a) (by omega)
    have eB := small_limb (a := b) (by omega)
    have hp : a % M256 * (b % M256) < 18446744073709551616 := Nat.lt_of_le_of_lt (Nat.mul_le_mul (show a % M256 ≤ 4294967295 by omega) (show b % M256 ≤ 4294967295 by omega)) (by decide)
    have e3 : x2 = ((a % M256 * (b % M256) % (m % M256) : Nat) : Int) := by
      rw [E2, eA, eB, ← em, ← Int.natCast_mul, wrap64 ⟨Int.natCast_nonneg _, by omega⟩, Int.tmod_eq_emod_of_nonneg (Int.natCast_nonneg _)]
      exact (Int.natCast_emod _ _).symm
    have hlt : a % M256 * (b % M256) % (m % M256) < m % M256 := Nat.mod_lt _ (by omega)
    refine ⟨by omega, by omega, ?_, trivial⟩
    rw [E3]
    have : join x2 0 0 0 = a % M256 * (b % M256) % (m % M256) := by
      unfold join
      rw [e3, Int.toNat_natCast]
      rfl
    rw [this]
  clear E1 E2 E3 E4 ha hb h1 h2
  clear_value x1 x2 x3 x4
  refine ⟨id, id, id, fun h => ⟨(S h).1, (S h).2.1, Z, Z, Z, (S h).2.2⟩, fun _ => ?_⟩
  repeat' (first | exact T | exact K | exact F | exact dgs_dg _ _ | exact (show (8 : Nat) ≤ 1000 by decide) | exact (show (16 : Nat) ≤ 1000 by decide) | (intro _ _ _ _) | (refine And.intro ?_ ?_))
theorem card_refOrd : FnOK Try.prog 19 (specUU ordG) :=
  FnOKV_UU (iv := fun _ _ => []) cx_none sl_all Try.func19 (by kernel_rfl) (by kernel_rfl) (fun a b => trivial) ok_refOrd
theorem card_refTot : FnOK Try.prog 20 (specUUU modC totG) :=
  FnOKV_UUU (iv := fun _ _ _ => []) cx_none sl_rest Try.func20 (by kernel_rfl) (by kernel_rfl) (fun _ _ _ => bnd_Un _) fun a b m ⟨h, _⟩ => ok_refTot a b m h
theorem card_refPro : FnOK Try.prog 21 (specUUU proC proG) :=
  FnOKV_UUU (iv := fun _ _ _ => []) cx_none sl_rest Try.func21 (by kernel_rfl) (by kernel_rfl) (fun _ _ _ => bnd_Un _) fun a b m ⟨h1, h2, h3, _⟩ => ok_refPro a b m h1 h2 h3
end Go.Proofs.Ytjokmekclibpmaa
end

section
/-
  Laws of wide numbers, and the reference's by a modulus: reckoned by the kernel. (Laid by program.)
-/
namespace Go.Proofs.Ytjokmekclibpmaa
open Go Go.Sx Go.RowKit
set_option maxRecDepth 100000
end Go.Proofs.Ytjokmekclibpmaa
end

section
/-
  Laws of wide sums and quotients.
-/
namespace Go.Proofs.Ytjokmekclibpmaa
open Go Go.Sx Go.RowKit
end Go.Proofs.Ytjokmekclibpmaa
end

section
/-
  Laws of numbers by a modulus: reckoned by the kernel. (Laid by program.)
-/
namespace Go.Proofs.Ytjokmekclibpmaa
open Go Go.Sx Go.RowKit
set_option maxRecDepth 100000
end Go.Proofs.Ytjokmekclibpmaa
end

section
/-
  Laws of numbers by a modulus: sums and products.
-/
namespace Go.Proofs.Ytjokmekclibpmaa
open Go Go.Sx Go.RowKit

end Go.Proofs.Ytjokmekclibpmaa
end

section
/-
  The reference's powers by a modulus: reckoned by the kernel. (Laid by program.)
-/
namespace Go.Proofs.Ytjokmekclibpmaa
open Go Go.Sx Go.RowKit
set_option maxRecDepth 100000
def u4z : List SK := List.replicate 4 (.c (.num .u64 0))
def invRPo (a x m : Nat) (A O : Nat → Nat) : Inv where
  X := Nat
  tm y := slotsAt 37 [(3, .one (.sc (.ptr 0 0))), (4, .one (.sc (.ptr 1 0))), (5, .one (.sc (.ptr 2 0))), (6, .one (.sc (.ptr 3 0))), (7, .one (.sc (.ptr 5 0))), (14, .one (sU x)), (15, .one (sI .i64 (y : Int)))]
  ob y := [.cells 24 [.u (A (64 * y))] 0, .cells 24 [.u x] 0, .cells 24 [.u m] 0, .cells 24 u4z 0, .dead, .cells 24 [.u (O (64 * y))] 0]
  holds y := y ≤ 4
  less y := 4 - y
def invRPi (a x m : Nat) (A O : Nat → Nat) : Inv where
  X := Nat × Nat
  tm y := slotsAt 37 [(3, .one (.sc (.ptr 0 0))), (4, .one (.sc (.ptr 1 0))), (5, .one (.sc (.ptr 2 0))), (6, .one (.sc (.ptr 3 0))), (7, .one (.sc (.ptr 5 0))), (9, .one (sI .u64 (limb x y.1))), (10, .one (sI .i64 (y.2 : Int))), (14, .one (sU x)), (15, .one (sI .i64 (y.1 : Int)))]
  ob y := [.cells 24 [.u (A (64 * y.1 + y.2))] 0, .cells 24 [.u x] 0, .cells 24 [.u m] 0, .cells 24 u4z 0, .dead, .cells 24 [.u (O (64 * y.1 + y.2))] 0]
  holds y := y.1 < 4 ∧ y.2 ≤ 64
  less y := 64 - y.2
def rpoC (a _ m : Nat) : List Prop := [m % M256 ≠ 0, a % M256 < m % M256]
def rpoG (a x m : Nat) : SV := .one (sU ((a % M256) ^ (x % M256) % (m % M256)))
def cxRPo : Cx := [(21, specUUU proC proG)]
-- VC vc_refPower HASH f167ba1e38ff9222
theorem vc_refPower (a x m : Nat) (A O : Nat → Nat) (r : Nat) :
    OwesV Try.prog cxRPo slRest [(3, .inv (invRPo a x m A O)), (6, .invR (invRPi a x m A O) (fun y z => z.1 = y.1))] 4 Try.f23 [sU a, sU x, sU m] (.one (sU r)) =
    (let x1 : Nat := m % Go.Sx.M256; let x2 : Nat := x % Go.Sx.M256; (1 : Nat) ≤ (1 : Nat) ∧ ∀ (a_1 : Go.Addr), (∀ (i : Nat), True) ∧ (Go.Sx.dgs (1 : Nat) fun (i : Nat) => Go.Sx.intsC (Go.Sx.SC.val (Go.Value.int (Go.IntKind.u64, (1 : Int)).fst (Go.Sx.selG [Go.Sx.SK.c (Go.Sx.SC.num Go.IntKind.u64 (1 : Int))] i)))) ∧ (1 : Nat) ≤ (1000 : Nat) ∧ x1 ≠ (0 : Nat) ∧ (∀ (y : Nat), Go.Sx.closedB (Go.Sx.slotsAt (37 : Nat) [((3 : Nat), Go.Sx.SV.one (Go.Sx.SA.sc (Go.Sx.SC.ptr (0 : Nat) (0 : Nat)))), ((4 : Nat), Go.Sx.SV.one (Go.Sx.SA.sc (Go.Sx.SC.ptr (1 : Nat) (0 : Nat)))), ((5 : Nat), Go.Sx.SV.one (Go.Sx.SA.sc (Go.Sx.SC.ptr (2 : Nat) (0 : Nat)))), ((6 : Nat), Go.Sx.SV.one (Go.Sx.SA.sc (Go.Sx.SC.ptr (3 : Nat) (0 : Nat)))), ((7 : Nat), Go.Sx.SV.one (Go.Sx.SA.sc (Go.Sx.SC.ptr (5 : Nat) (0 : Nat)))), ((14 : Nat), Go.Sx.SV.one (Go.Sx.sU x)), ((15 : Nat), Go.Sx.SV.one (Go.Sx.sI Go.IntKind.i64 (↑y : Int)))]) [Go.Sx.SO.cells (24 : Go.TypeId) [Go.Sx.SK.u (A ((64 : Nat) * y))] (0 : Nat), Go.Sx.SO.cells (24 : Go.TypeId) [Go.Sx.SK.u x] (0 : Nat), Go.Sx.SO.cells (24 : Go.TypeId) [Go.Sx.SK.u m] (0 : Nat), Go.Sx.SO.cells (24 : Go.TypeId) u4z (0 : Nat), Go.Sx.SO.dead, Go.Sx.SO.cells (24 : Go.TypeId) [Go.Sx.SK.u (O ((64 : Nat) * y))] (0 : Nat)] = Bool.true) ∧ ∃ (y : Nat), y ≤ (4 : Nat) ∧ x2 = x2 ∧ (0 : Int) = (↑y : Int) ∧ a % Go.Sx.M256 = A ((64 : Nat) * y) % Go.Sx.M256 ∧ (0 : Nat) = (0 : Nat) ∧ x2 = x2 ∧ (0 : Nat) = (0 : Nat) ∧ x1 = x1 ∧ (0 : Nat) = (0 : Nat) ∧ (0 : Nat) = (0 : Nat) ∧ (1 : Nat) % x1 % Go.Sx.M256 = O ((64 : Nat) * y) % Go.Sx.M256 ∧ (0 : Nat) = (0 : Nat) ∧ ∀ (y : Nat), y ≤ (4 : Nat) → (Decidable.decide ((↑y : Int) < (4 : Int)) = Bool.true → ((0 : Int) ≤ (↑y : Int) ∧ (↑y : Int) < (4 : Int)) ∧ (∀ (y : Nat × Nat), Go.Sx.closedB (Go.Sx.slotsAt (37 : Nat) [((3 : Nat), Go.Sx.SV.one (Go.Sx.SA.sc (Go.Sx.SC.ptr (0 : Nat) (0 : Nat)))), ((4 : Nat), Go.Sx.SV.one (Go.Sx.SA.sc (Go.Sx.SC.ptr (1 : Nat) (0 : Nat)))), ((5 : Nat), Go.Sx.SV.one (Go.Sx.SA.sc (Go.Sx.SC.ptr (2 : Nat) (0 : Nat)))), ((6 : Nat), Go.Sx.SV.one (Go.Sx.SA.sc (Go.Sx.SC.ptr (3 : Nat) (0 : Nat)))), ((7 : Nat), Go.Sx.SV.one (Go.Sx.SA.sc (Go.Sx.SC.ptr (5 : Nat) (0 : Nat)))), ((9 : Nat), Go.Sx.SV.one (Go.Sx.sI Go.IntKind.u64 (Go.Sx.limb x y.fst))), ((10 : Nat), Go.Sx.SV.one (Go.Sx.sI Go.IntKind.i64 (↑y.snd : Int))), ((14 : Nat), Go.Sx.SV.one (Go.Sx.sU x)), ((15 : Nat), Go.Sx.SV.one (Go.Sx.sI Go.IntKind.i64 (↑y.fst : Int)))]) [Go.Sx.SO.cells (24 : Go.TypeId) [Go.Sx.SK.u (A ((64 : Nat) * y.fst + y.snd))] (0 : Nat), Go.Sx.SO.cells (24 : Go.TypeId) [Go.Sx.SK.u x] (0 : Nat), Go.Sx.SO.cells (24 : Go.TypeId) [Go.Sx.SK.u m] (0 : Nat), Go.Sx.SO.cells (24 : Go.TypeId) u4z (0 : Nat), Go.Sx.SO.dead, Go.Sx.SO.cells (24 : Go.TypeId) [Go.Sx.SK.u (O ((64 : Nat) * y.fst + y.snd))] (0 : Nat)] = Bool.true) ∧ ∃ (y0 : Nat × Nat), ((y0.fst < (4 : Nat) ∧ y0.snd ≤ (64 : Nat)) ∧ y0.fst = y0.fst) ∧ Go.Sx.limb x (↑y : Int).toNat = Go.Sx.limb x y0.fst ∧ (0 : Int) = (↑y0.snd : Int) ∧ x2 = x2 ∧ (↑y : Int) = (↑y0.fst : Int) ∧ A ((64 : Nat) * y) % Go.Sx.M256 = A ((64 : Nat) * y0.fst + y0.snd) % Go.Sx.M256 ∧ (0 : Nat) = (0 : Nat) ∧ x2 = x2 ∧ (0 : Nat) = (0 : Nat) ∧ x1 = x1 ∧ (0 : Nat) = (0 : Nat) ∧ (0 : Nat) = (0 : Nat) ∧ O ((64 : Nat) * y) % Go.Sx.M256 = O ((64 : Nat) * y0.fst + y0.snd) % Go.Sx.M256 ∧ (0 : Nat) = (0 : Nat) ∧ ∀ (y_1 : Nat × Nat), y_1.fst < (4 : Nat) ∧ y_1.snd ≤ (64 : Nat) → y_1.fst = y0.fst → (Decidable.decide ((↑y_1.snd : Int) < (64 : Int)) = Bool.true → (0 : Int) ≤ (↑y_1.snd : Int) ∧ ((Go.IntKind.u64.wrap (↑(BitVec.ofInt (64 : Nat) ((Go.Sx.limb x y_1.fst).fdiv ((2 : Int) ^ Min.min (↑y_1.snd : Int).toNat (64 : Nat))) &&& BitVec.ofInt (64 : Nat) (1 : Int)).toNat : Int) == (1 : Int)) = Bool.true → x1 ≠ (0 : Nat) ∧ O ((64 : Nat) * y_1.fst + y_1.snd) % Go.Sx.M256 < x1 ∧ A ((64 : Nat) * y_1.fst + y_1.snd) % Go.Sx.M256 < x1 ∧ x1 ≠ (0 : Nat) ∧ A ((64 : Nat) * y_1.fst + y_1.snd) % Go.Sx.M256 < x1 ∧ A ((64 : Nat) * y_1.fst + y_1.snd) % Go.Sx.M256 < x1 ∧ ∃ (y' : Nat × Nat), ((y'.fst < (4 : Nat) ∧ y'.snd ≤ (64 : Nat)) ∧ y'.fst = y0.fst) ∧ Go.Sx.limb x y_1.fst = Go.Sx.limb x y'.fst ∧ Go.IntKind.i64.wrap ((↑y_1.snd : Int) + (1 : Int)) = (↑y'.snd : Int) ∧ x2 = x2 ∧ (↑y_1.fst : Int) = (↑y'.fst : Int) ∧ A ((64 : Nat) * y_1.fst + y_1.snd) % Go.Sx.M256 * (A ((64 : Nat) * y_1.fst + y_1.snd) % Go.Sx.M256) % x1 % Go.Sx.M256 = A ((64 : Nat) * y'.fst + y'.snd) % Go.Sx.M256 ∧ (0 : Nat) = (0 : Nat) ∧ x2 = x2 ∧ (0 : Nat) = (0 : Nat) ∧ x1 = x1 ∧ (0 : Nat) = (0 : Nat) ∧ (0 : Nat) = (0 : Nat) ∧ O ((64 : Nat) * y_1.fst + y_1.snd) % Go.Sx.M256 * (A ((64 : Nat) * y_1.fst + y_1.snd) % Go.Sx.M256) % x1 % Go.Sx.M256 = O ((64 : Nat) * y'.fst + y'.snd) % Go.Sx.M256 ∧ (0 : Nat) = (0 : Nat) ∧ (64 : Nat) - y'.snd < (64 : Nat) - y_1.snd) ∧ ((Go.IntKind.u64.wrap (↑(BitVec.ofInt (64 : Nat) ((Go.Sx.limb x y_1.fst).fdiv ((2 : Int) ^ Min.min (↑y_1.snd : Int).toNat (64 : Nat))) &&& BitVec.ofInt (64 : Nat) (1 : Int)).toNat : Int) == (1 : Int)) = Bool.false → x1 ≠ (0 : Nat) ∧ A ((64 : Nat) * y_1.fst + y_1.snd) % Go.Sx.M256 < x1 ∧ A ((64 : Nat) * y_1.fst + y_1.snd) % Go.Sx.M256 < x1 ∧ ∃ (y' : Nat × Nat), ((y'.fst < (4 : Nat) ∧ y'.snd ≤ (64 : Nat)) ∧ y'.fst = y0.fst) ∧ Go.Sx.limb x y_1.fst = Go.Sx.limb x y'.fst ∧ Go.IntKind.i64.wrap ((↑y_1.snd : Int) + (1 : Int)) = (↑y'.snd : Int) ∧ x2 = x2 ∧ (↑y_1.fst : Int) = (↑y'.fst : Int) ∧ A ((64 : Nat) * y_1.fst + y_1.snd) % Go.Sx.M256 * (A ((64 : Nat) * y_1.fst + y_1.snd) % Go.Sx.M256) % x1 % Go.Sx.M256 = A ((64 : Nat) * y'.fst + y'.snd) % Go.Sx.M256 ∧ (0 : Nat) = (0 : Nat) ∧ x2 = x2 ∧ (0 : Nat) = (0 : Nat) ∧ x1 = x1 ∧ (0 : Nat) = (0 : Nat) ∧ (0 : Nat) = (0 : Nat) ∧ O ((64 : Nat) * y_1.fst + y_1.snd) % Go.Sx.M256 = O ((64 : Nat) * y'.fst + y'.snd) % Go.Sx.M256 ∧ (0 : Nat) = (0 : Nat) ∧ (64 : Nat) - y'.snd < (64 : Nat) - y_1.snd)) ∧ (Decidable.decide ((↑y_1.snd : Int) < (64 : Int)) = Bool.false → ∃ (y' : Nat), y' ≤ (4 : Nat) ∧ x2 = x2 ∧ Go.IntKind.i64.wrap ((↑y_1.fst : Int) + (1 : Int)) = (↑y' : Int) ∧ A ((64 : Nat) * y_1.fst + y_1.snd) % Go.Sx.M256 = A ((64 : Nat) * y') % Go.Sx.M256 ∧ (0 : Nat) = (0 : Nat) ∧ x2 = x2 ∧ (0 : Nat) = (0 : Nat) ∧ x1 = x1 ∧ (0 : Nat) = (0 : Nat) ∧ (0 : Nat) = (0 : Nat) ∧ O ((64 : Nat) * y_1.fst + y_1.snd) % Go.Sx.M256 = O ((64 : Nat) * y') % Go.Sx.M256 ∧ (0 : Nat) = (0 : Nat) ∧ (4 : Nat) - y' < (4 : Nat) - y)) ∧ (Decidable.decide ((↑y : Int) < (4 : Int)) = Bool.false → O ((64 : Nat) * y) % Go.Sx.M256 = r % Go.Sx.M256 ∧ True)) := by kernel_rfl
-- END VC
end Go.Proofs.Ytjokmekclibpmaa
end

section
/-
  The reference's powers by a modulus; the law of powers.
-/
namespace Go.Proofs.Ytjokmekclibpmaa
open Go Go.Sx Go.RowKit

theorem mod2_succ (x j : Nat) : x % 2 ^ (j + 1) = x % 2 ^ j + 2 ^ j * (x.testBit j).toNat := by rw [Nat.mod_pow_succ, Nat.toNat_testBit]
def pwA (a m j : Nat) : Nat := a ^ (2 ^ j) % m
def pwO (a x m j : Nat) : Nat := a ^ (x % 2 ^ j) % m
theorem pwA_step (a m j : Nat) : pwA a m j * pwA a m j % m = pwA a m (j + 1) := by
  unfold pwA
  rw [← Nat.mul_mod, ← Nat.pow_add, Nat.pow_succ 2 j]
  exact congrArg (fun v => a ^ v % m) (by omega)
theorem pwO_one {a x m j : Nat} (h : x.testBit j = true) : pwO a x m j * pwA a m j % m = pwO a x m (j + 1) := by
  unfold pwO pwA
  rw [← Nat.mul_mod, ← Nat.pow_add, mod2_succ, h]
  exact congrArg (fun v => a ^ v % m) (by simp)
theorem pwO_zero {a x m j : Nat} (h : x.testBit j = false) : pwO a x m j = pwO a x m (j + 1) := by
  unfold pwO
  rw [mod2_succ, h]
  exact congrArg (fun v => a ^ v % m) (by simp)
theorem ok_refPower (a x m : Nat) (hm : m % M256 ≠ 0) (ha : a % M256 < m % M256) :
    OwesV Try.prog cxRPo slRest [(3, .inv (invRPo a x m (pwA (a % M256) (m % M256)) (pwO (a % M256) (x % M256) (m % M256)))), (6, .invR (invRPi a x m (pwA (a % M256) (m % M256)) (pwO (a % M256) (x % M256) (m % M256))) (fun y z => z.1 = y.1))] 4 Try.f23 [sU a, sU x, sU m] (rpoG a x m) := by
  unfold rpoG
  rw [vc_refPower]
  have hbit := fun j hj => limb_bit x j hj
  have hxM := modM x
  have hmM := modM m
  have M0 : 0 < M256 := by decide
  intro x1 x2
  have E1 : x1 = m % M256 := rfl
  have E2 : x2 = x % M256 := rfl
  rw [← E1] at hm ha hmM
  rw [← E2] at hxM
  simp only [← E2] at hbit
  rw [← E1, ← E2]
  clear_value x1 x2
  generalize a % M256 = a' at *
  have hpos : 0 < x1 := by omega
  have hlt : ∀ v : Nat, v % x1 < M256 := fun v => Nat.lt_trans (Nat.mod_lt v hpos) hmM
  have hmm : ∀ v : Nat, v % x1 % M256 = v % x1 := fun v => Nat.mod_eq_of_lt (hlt v)
  have hA : ∀ j, pwA a' x1 j % M256 = pwA a' x1 j := fun j => hmm _
  have hO : ∀ j, pwO a' x2 x1 j % M256 = pwO a' x2 x1 j := fun j => hmm _
  have lA : ∀ j, pwA a' x1 j < x1 := fun j => Nat.mod_lt _ hpos
  have lO : ∀ j, pwO a' x2 x1 j < x1 := fun j => Nat.mod_lt _ hpos
  refine ⟨Nat.le_refl _, fun _ => ⟨fun _ => trivial, ⟨fun i hi => ?_⟩, by decide, hm, fun _ => rfl, 0, by decide, rfl, rfl, ?_, rfl, rfl, rfl, rfl, rfl, rfl, ?_, rfl, fun w hw => ⟨fun h1 => ⟨⟨by omega, of_decide_eq_true h1⟩, fun _ => rfl, (w, 0), ⟨⟨?_, by show 0 ≤ 64; omega⟩, rfl⟩, by rw [Int.toNat_natCast], rfl, rfl, rfl, rfl, rfl, rfl, rfl, rfl, rfl, rfl, rfl, rfl, fun ⟨w', i⟩ ⟨hw', hi⟩ e => ⟨fun h2 => ⟨by omega, fun h3 => ?_, fun h3 => ?_⟩, fun h2 => ?_⟩⟩, fun h1 => ?_⟩⟩⟩
  · have : i = 0 := by omega
    subst this
    exact ⟨by decide, by decide⟩
  · show a' = pwA a' x1 (64 * 0) % M256
    rw [hA]
    unfold pwA
    rw [Nat.mul_zero, Nat.pow_zero, Nat.pow_one, Nat.mod_eq_of_lt ha]
  · show 1 % x1 % M256 = pwO a' x2 x1 (64 * 0) % M256
    rw [hO, hmm]
    unfold pwO
    rw [Nat.mul_zero, Nat.pow_zero, Nat.mod_one, Nat.pow_zero]
  · have h1 : (w : Int) < 4 := of_decide_eq_true h1
    show w < 4; omega
  · have e : w' = w := e
    subst e
    have hw' : w' < 4 := hw'
    have h2 : (i : Int) < 64 := of_decide_eq_true h2
    have hb := hbit (64 * w' + i) (by omega)
    rw [show (64 * w' + i) / 64 = w' by omega, show (64 * w' + i) % 64 = i by omega] at hb
    have h3 : (IntKind.u64.wrap (↑(BitVec.ofInt 64 ((limb x w').fdiv (2 ^ Min.min ((i : Int)).toNat 64)) &&& BitVec.ofInt 64 1).toNat) == 1) = true := h3
    rw [two_min i (by omega), hb] at h3
    have K : pwA a' x1 (64 * w' + i) % M256 < x1 := by rw [hA]; exact lA _
    have L : pwO a' x2 x1 (64 * w' + i) % M256 < x1 := by rw [hO]; exact lO _
    refine ⟨hm, L, K, hm, K, K, (w', i + 1), ⟨⟨hw', by show i + 1 ≤ 64; omega⟩, rfl⟩, rfl, ?_, rfl, rfl, ?_, rfl, rfl, rfl, rfl, rfl, rfl, ?_, rfl, by show 64 - (i + 1) < 64 - i; omega⟩
    · show IntKind.i64.wrap ((i : Int) + 1) = ((i + 1 : Nat) : Int)
      rw [wrapi (by omega)]; rfl
    · show pwA a' x1 (64 * w' + i) % M256 * (pwA a' x1 (64 * w' + i) % M256) % x1 % M256 = pwA a' x1 (64 * w' + (i + 1)) % M256
      rw [hA, pwA_step, ← Nat.add_assoc]
    · show pwO a' x2 x1 (64 * w' + i) % M256 * (pwA a' x1 (64 * w' + i) % M256) % x1 % M256 = pwO a' x2 x1 (64 * w' + (i + 1)) % M256
      rw [hA, hO, pwO_one h3, ← Nat.add_assoc]
  · have e : w' = w := e
    subst e
    have hw' : w' < 4 := hw'
    have h2 : (i : Int) < 64 := of_decide_eq_true h2
    have hb := hbit (64 * w' + i) (by omega)
    rw [show (64 * w' + i) / 64 = w' by omega, show (64 * w' + i) % 64 = i by omega] at hb
    have h3 : (IntKind.u64.wrap (↑(BitVec.ofInt 64 ((limb x w').fdiv (2 ^ Min.min ((i : Int)).toNat 64)) &&& BitVec.ofInt 64 1).toNat) == 1) = false := h3
    rw [two_min i (by omega), hb] at h3
    have K : pwA a' x1 (64 * w' + i) % M256 < x1 := by rw [hA]; exact lA _
    refine ⟨hm, K, K, (w', i + 1), ⟨⟨hw', by show i + 1 ≤ 64; omega⟩, rfl⟩, rfl, ?_, rfl, rfl, ?_, rfl, rfl, rfl, rfl, rfl, rfl, ?_, rfl, by show 64 - (i + 1) < 64 - i; omega⟩
    · show IntKind.i64.wrap ((i : Int) + 1) = ((i + 1 : Nat) : Int)
      rw [wrapi (by omega)]; rfl
    · show pwA a' x1 (64 * w' + i) % M256 * (pwA a' x1 (64 * w' + i) % M256) % x1 % M256 = pwA a' x1 (64 * w' + (i + 1)) % M256
      rw [hA, pwA_step, ← Nat.add_assoc]
    · show pwO a' x2 x1 (64 * w' + i) % M256 = pwO a' x2 x1 (64 * w' + (i + 1)) % M256
      rw [pwO_zero h3, ← Nat.add_assoc]
  · have e : w' = w := e
    subst e
    have hi : i ≤ 64 := hi
    have h2 : ¬ (i : Int) < 64 := of_decide_eq_false h2
    have : i = 64 := by omega
    subst this
    have hw' : w' < 4 := hw'
    refine ⟨w' + 1, by omega, rfl, ?_, ?_, rfl, rfl, rfl, rfl, rfl, rfl, ?_, rfl, by omega⟩
    · show IntKind.i64.wrap ((w' : Int) + 1) = ((w' + 1 : Nat) : Int)
      rw [wrapi (by omega)]; rfl
    · rfl
    · rfl
  · have h1 : ¬ (w : Int) < 4 := of_decide_eq_false h1
    have : w = 4 := by omega
    subst this
    refine ⟨?_, trivial⟩
    unfold pwO
    rw [show 64 * 4 = 256 by rfl, Nat.mod_eq_of_lt (show x2 < 2 ^ 256 from hxM)]
theorem card_refPower : FnOK Try.prog 23 (specUUU rpoC rpoG) :=
  FnOKV_UUU (iv := fun a x m => [(3, .inv (invRPo a x m (pwA (a % M256) (m % M256)) (pwO (a % M256) (x % M256) (m % M256)))), (6, .invR (invRPi a x m (pwA (a % M256) (m % M256)) (pwO (a % M256) (x % M256) (m % M256))) (fun y z => z.1 = y.1))]) (CxOK_cons card_refPro CxOK_nil) sl_rest Try.func23 (by kernel_rfl) (by kernel_rfl) (fun _ _ _ => bnd_Un _) fun a x m ⟨h1, h2, _⟩ => ok_refPower a x m h1 h2
end Go.Proofs.Ytjokmekclibpmaa
end

section
/-
  The reference's curves: reckoned by the kernel. (Laid by program.)
-/
namespace Go.Proofs.Ytjokmekclibpmaa
open Go Go.Sx Go.RowKit
set_option maxRecDepth 100000
/-- A small number by a modulus. -/
def specWU (c : Int → Nat → List Prop) (g : Int → Nat → SV) : FSpec := fun args =>
  match args with
  | [x, y] => match asI x, asU y with
    | some (.u64, n), some (p, m) => some (p ++ c n m, g n m)
    | _, _ => none
  | _ => none
def rbyC (n : Int) (m : Nat) : List Prop := [0 ≤ n ∧ n < 18446744073709551616, m % M256 ≠ 0]
def rbyG (n : Int) (m : Nat) : SV := .one (sU (n.toNat % (m % M256)))
def rrgC : List (List At) → List Prop
  | [[.u P, .u _, .u _, .u _, .u _, .u _, .b _], [.u x]] => [x % M256 < P % M256]
  | _ => [False]
def rrgG : List (List At) → SV
  | [[.u P, .u A, .u B, .u _, .u _, .u _, .b _], [.u x]] => .one (sU (((x % M256 * ((x % M256 * (x % M256) % (P % M256) + A % M256) % (P % M256)) % (P % M256) + B % M256) % (P % M256))))
  | _ => .tup []
def cRrg : FSpec := specA [.str pCv, .str [.u]] rrgC rrgG
def isOnB (P A B x y : Nat) (f : Bool) : Bool := if f then x % M256 == 0 && y % M256 == 0 else decide (x % M256 < P % M256) && (decide (y % M256 < P % M256) && (y % M256 * (y % M256) % (P % M256) == ((x % M256 * ((x % M256 * (x % M256) % (P % M256) + A % M256) % (P % M256)) % (P % M256) + B % M256) % (P % M256))))
def isOnG : List (List At) → SV
  | [[.u P, .u A, .u B, .u _, .u _, .u _, .b _], [.u x, .u y, .b f]] => .one (sB (isOnB P A B x y f))
  | _ => .tup []
def isOC : List (List At) → List Prop
  | [[.u _, .u _, .u _, .u _, .u _, .u _, .b _], [.u _, .u _, .b _]] => []
  | _ => [False]
def cIsOn : FSpec := specA [.str pCv, .str pPt] isOC isOnG
def isZG (a : Nat) : SV := .one (sB (a % M256 == 0))
def cxRrg : Cx := [(21, specUUU proC proG), (20, specUUU modC totG)]
def cxIsOn : Cx := [(24, specU isZG), (19, specUU ordG), (21, specUUU proC proG), (41, cRrg)]
def cxRCF : Cx := [(24, specU isZG), (19, specUU ordG), (21, specUUU proC proG), (20, specUUU modC totG), (22, specWU rbyC rbyG), (23, specUUU rpoC rpoG), (25, cIsOn)]
-- VC vc_refBy HASH 449095937ee4c8d5
theorem vc_refBy (n : Int) (m : Nat) :
    OwesV Try.prog .none slRest [] 4 Try.f22 [sI .u64 n, sU m] (rbyG n m) =
    (let x1 : Nat := m % Go.Sx.M256; (2 : Nat) ≤ (2 : Nat) ∧ ∀ (_ : Go.Addr), (∀ (_ : Nat), True) ∧ (Go.Sx.dgs (2 : Nat) fun (i : Nat) => Go.Sx.intsC (Go.Sx.SC.val (Go.Value.int (Go.IntKind.u64, n.tmod (4294967296 : Int)).fst (Go.Sx.selG [Go.Sx.SK.c (Go.Sx.SC.val (Go.Value.int Go.IntKind.u64 (n.tmod (4294967296 : Int)))), Go.Sx.SK.c (Go.Sx.SC.val (Go.Value.int Go.IntKind.u64 (Go.IntKind.u64.wrap (n.tdiv (4294967296 : Int)))))] i)))) ∧ (2 : Nat) ≤ (1000 : Nat) ∧ x1 ≠ (0 : Nat) ∧ (Go.Sx.vn (2 : Nat) fun (i : Nat) => (Go.Sx.intsL [Go.Sx.SK.c (Go.Sx.SC.val (Go.Value.int Go.IntKind.u64 (n.tmod (4294967296 : Int)))), Go.Sx.SK.c (Go.Sx.SC.val (Go.Value.int Go.IntKind.u64 (Go.IntKind.u64.wrap (n.tdiv (4294967296 : Int)))))]).getD i (0 : Int)) % x1 % Go.Sx.M256 = n.toNat % x1 % Go.Sx.M256 ∧ True) := by kernel_rfl
-- END VC
-- VC vc_refIsZ HASH 27a3d6f74acf3c60
theorem vc_refIsZ (a : Nat) :
    Owes Try.prog .none [] 10 Try.f24 [sU a] (isZG a) =
    (let x1 : Bool := a % Go.Sx.M256 == (0 : Nat); Go.Sx.conj [x1] = x1) := by kernel_rfl
-- END VC
-- VC vc_refRgt HASH 811ab06479ebbfe2
theorem vc_refRgt (P A B N X Y x : Nat) (F : Bool) :
    Owes Try.prog cxRrg [] 10 Try.f41 [sCv P A B N X Y F, sU x] (rrgG [[.u P, .u A, .u B, .u N, .u X, .u Y, .b F], [.u x]]) =
    (let x1 : Nat := P % Go.Sx.M256; let x2 : Nat := x % Go.Sx.M256; let x3 : Nat := x2 * x2 % x1; let x4 : Nat := A % Go.Sx.M256; let x5 : Nat := (x3 % Go.Sx.M256 + x4) % x1 % Go.Sx.M256; let x6 : Nat := B % Go.Sx.M256; x1 ≠ (0 : Nat) ∧ x2 < x1 ∧ x2 < x1 ∧ x1 ≠ (0 : Nat) ∧ x1 ≠ (0 : Nat) ∧ x2 < x1 ∧ x5 < x1 ∧ x1 ≠ (0 : Nat) ∧ (x2 * x5 % x1 % Go.Sx.M256 + x6) % x1 % Go.Sx.M256 = (x2 * ((x3 + x4) % x1) % x1 + x6) % x1 % Go.Sx.M256 ∧ True) := by kernel_rfl
-- END VC
-- VC vc_refIsOn HASH c2c187fed7fa2d57
theorem vc_refIsOn (P A B N X Y x y : Nat) (F f : Bool) :
    Owes Try.prog cxIsOn [] 10 Try.f25 [sCv P A B N X Y F, sPt x y f] (isOnG [[.u P, .u A, .u B, .u N, .u X, .u Y, .b F], [.u x, .u y, .b f]]) =
    (let x1 : Nat := x % Go.Sx.M256; let x2 : Bool := x1 == (0 : Nat); let x3 : Nat := y % Go.Sx.M256; let x4 : Nat := P % Go.Sx.M256; let x5 : Int := Go.Sx.cmpI x1 x4; let x6 : Bool := Decidable.decide (x5 < (0 : Int)); let x7 : Int := Go.Sx.cmpI x3 x4; let x8 : Bool := x6 && Decidable.decide (x7 < (0 : Int)); (f = Bool.true → (x2 = Bool.true → x2 = Bool.true) ∧ (x2 = Bool.true → x2 = Bool.true) ∧ (x2 = Bool.true → x2 = Bool.true) ∧ (x2 && x3 == (0 : Nat)) = isOnB P A B x y f) ∧ (f = Bool.false → (x6 = Bool.true → x6 = Bool.true) ∧ (x6 = Bool.true → x6 = Bool.true) ∧ (x6 = Bool.true → x6 = Bool.true) ∧ (x6 = Bool.true → x6 = Bool.true) ∧ (x6 = Bool.true → x6 = Bool.true) ∧ (x6 = Bool.true → x6 = Bool.true) ∧ (x8 = Bool.true → x8 = Bool.true) ∧ (x8 = Bool.true → x8 = Bool.true) ∧ (x8 = Bool.true → x8 = Bool.true) ∧ (x8 = Bool.true → x8 = Bool.true) ∧ (x8 = Bool.true → x8 = Bool.true) ∧ (x8 = Bool.true → x8 = Bool.true) ∧ (x8 = Bool.true → x4 ≠ (0 : Nat)) ∧ (x8 = Bool.true → x3 < x4) ∧ (x8 = Bool.true → x3 < x4) ∧ (x8 = Bool.true → x8 = Bool.true) ∧ (x8 = Bool.true → x8 = Bool.true) ∧ (x8 = Bool.true → x8 = Bool.true) ∧ (x8 = Bool.true → x1 < x4) ∧ (x8 = Bool.true → x8 = Bool.true) ∧ (x8 = Bool.true → x8 = Bool.true) ∧ (x8 = Bool.true → x8 = Bool.true) ∧ (x8 && Go.Sx.conj [x3 * x3 % x4 % Go.Sx.M256 == (x1 * ((x1 * x1 % x4 + A % Go.Sx.M256) % x4) % x4 + B % Go.Sx.M256) % x4 % Go.Sx.M256]) = isOnB P A B x y f)) := by kernel_rfl
-- END VC
-- VC vc_refCF HASH 58d2e2160b8cca10
theorem vc_refCF (P A B N X Y : Nat) (F : Bool) (e : Int) :
    Owes Try.prog cxRCF [] 10 Try.f9 [sCv P A B N X Y F] (.one (sI .i64 e)) =
    (let x1 : Nat := P % Go.Sx.M256; let x2 : Int := Go.Sx.cmpI x1 (3 : Nat); let x3 : Bool := Decidable.decide (x2 > (0 : Int)); let x4 : Bool := x3 && Go.IntKind.u64.wrap (↑(BitVec.ofInt (64 : Nat) (Go.Sx.limb P (0 : Nat)) &&& BitVec.ofInt (64 : Nat) (3 : Int)).toNat : Int) == (3 : Int); let x5 : Nat := A % Go.Sx.M256; let x6 : Int := Go.Sx.cmpI x5 x1; let x7 : Bool := x4 && Decidable.decide (x6 < (0 : Int)); let x8 : Nat := B % Go.Sx.M256; let x9 : Int := Go.Sx.cmpI x8 x1; let x10 : Bool := x7 && Decidable.decide (x9 < (0 : Int)); let x11 : Int := Go.Sx.cmpI (N % Go.Sx.M256) (1 : Nat); let x12 : Nat := (4 : Nat) % x1 % Go.Sx.M256; let x13 : Nat := x5 ^ (3 : Nat) % x1 % Go.Sx.M256; let x14 : Nat := (27 : Nat) % x1 % Go.Sx.M256; let x15 : Nat := x8 ^ (2 : Nat) % x1 % Go.Sx.M256; let x16 : Bool := (x12 * x13 % x1 % Go.Sx.M256 + x14 * x15 % x1 % Go.Sx.M256) % x1 % Go.Sx.M256 == (0 : Nat); let x17 : Bool := x16 || F; (x3 = Bool.true → x3 = Bool.true) ∧ (x3 = Bool.true → x3 = Bool.true) ∧ (x3 = Bool.true → x3 = Bool.true) ∧ (x3 = Bool.true → x3 = Bool.true) ∧ (x3 = Bool.true → x3 = Bool.true) ∧ (x4 = Bool.true → x4 = Bool.true) ∧ (x4 = Bool.true → x4 = Bool.true) ∧ (x4 = Bool.true → x4 = Bool.true) ∧ (x4 = Bool.true → x4 = Bool.true) ∧ (x4 = Bool.true → x4 = Bool.true) ∧ (x4 = Bool.true → x4 = Bool.true) ∧ (x7 = Bool.true → x7 = Bool.true) ∧ (x7 = Bool.true → x7 = Bool.true) ∧ (x7 = Bool.true → x7 = Bool.true) ∧ (x7 = Bool.true → x7 = Bool.true) ∧ (x7 = Bool.true → x7 = Bool.true) ∧ (x7 = Bool.true → x7 = Bool.true) ∧ (x10 = Bool.true → x10 = Bool.true) ∧ (x10 = Bool.true → x10 = Bool.true) ∧ (x10 = Bool.true → x10 = Bool.true) ∧ (x10 = Bool.true → x10 = Bool.true) ∧ (x10 = Bool.true → x10 = Bool.true) ∧ ((!(x10 && Decidable.decide (x11 > (0 : Int)))) = Bool.true → (16 : Int) = e) ∧ ((!(x10 && Decidable.decide (x11 > (0 : Int)))) = Bool.false → ((0 : Int) ≤ (4 : Int) ∧ (4 : Int) < (18446744073709551616 : Int)) ∧ x1 ≠ (0 : Nat) ∧ x1 ≠ (0 : Nat) ∧ x5 < x1 ∧ x1 ≠ (0 : Nat) ∧ x12 < x1 ∧ x13 < x1 ∧ ((0 : Int) ≤ (27 : Int) ∧ (27 : Int) < (18446744073709551616 : Int)) ∧ x1 ≠ (0 : Nat) ∧ x1 ≠ (0 : Nat) ∧ x8 < x1 ∧ x1 ≠ (0 : Nat) ∧ x14 < x1 ∧ x15 < x1 ∧ x1 ≠ (0 : Nat) ∧ ((!x16) = Bool.true → (!x16) = Bool.true) ∧ ((!x16) = Bool.true → (!x16) = Bool.true) ∧ (x16 = Bool.false → (!x16) = Bool.true) ∧ ((!x17) = Bool.true → (!x17) = Bool.true) ∧ ((!x17) = Bool.true → (!x17) = Bool.true) ∧ ((!x17) = Bool.true → (!x17) = Bool.true) ∧ ((!x17) = Bool.true → (!x17) = Bool.true) ∧ (x17 = Bool.false → (!x17) = Bool.true) ∧ ((x17 || !isOnB P A B X Y F) = Bool.true → (16 : Int) = e) ∧ ((x17 || !isOnB P A B X Y F) = Bool.false → (0 : Int) = e))) := by kernel_rfl
-- END VC
end Go.Proofs.Ytjokmekclibpmaa
end

section
/-
  The reference's inverses by a modulus: reckoned by the kernel. (Laid by program.)
-/
namespace Go.Proofs.Ytjokmekclibpmaa
open Go Go.Sx Go.RowKit
set_option maxRecDepth 100000
end Go.Proofs.Ytjokmekclibpmaa
end

section
/-
  Inverses by a modulus: the way back through the steps of Euclid, as numbers.
-/
namespace Go.Proofs.Ytjokmekclibpmaa
open Go Go.Sx Go.RowKit

end Go.Proofs.Ytjokmekclibpmaa
end

section
/-
  The reference's inverses: the way back.
-/
namespace Go.Proofs.Ytjokmekclibpmaa
open Go Go.Sx Go.RowKit

end Go.Proofs.Ytjokmekclibpmaa
end

section
/-
  The reference's inverses, and the law: reckoned by the kernel. (Laid by program.)
-/
namespace Go.Proofs.Ytjokmekclibpmaa
open Go Go.Sx Go.RowKit
set_option maxRecDepth 100000
end Go.Proofs.Ytjokmekclibpmaa
end

section
/-
  The reference's inverses, and the law.
-/
namespace Go.Proofs.Ytjokmekclibpmaa
open Go Go.Sx Go.RowKit

end Go.Proofs.Ytjokmekclibpmaa
end

section
/-
  The reference's curves: points added: reckoned by the kernel. (Laid by program.)
-/
namespace Go.Proofs.Ytjokmekclibpmaa
open Go Go.Sx Go.RowKit
set_option maxRecDepth 100000
structure rtgP (P A x y : Nat) (f : Bool) (z w : Nat) (g : Bool) : Prop where
  A0 : A % M256 < P % M256
  p0 : f = false → x % M256 < P % M256 ∧ y % M256 < P % M256
  q0 : g = false → z % M256 < P % M256 ∧ w % M256 < P % M256
def cRCF : FSpec := specA [.str pCv] ckC ckG
def cROn : FSpec := specA [.str pCv, .str pPt] onC onG
def cxROn : Cx := [(9, cRCF), (25, cIsOn)]
def cxCC : Cx := [(7, cRCF), (8, cROn), (9, cRCF), (10, cROn)]
-- VC vc_refOn HASH d465a23852837bd2
theorem vc_refOn (P A B N X Y x y : Nat) (F f : Bool) (e : Int) :
    Owes Try.prog cxROn [] 10 Try.f10 [sCv P A B N X Y F, sPt x y f] (.one (sI .i64 e)) =
    (let x1 : Bool := ckE P A B N X Y F != (0 : Int); ((!x1) = Bool.true → (!x1) = Bool.true) ∧ ((!x1) = Bool.true → (!x1) = Bool.true) ∧ ((!x1) = Bool.true → (!x1) = Bool.true) ∧ (x1 = Bool.false → (!x1) = Bool.true) ∧ ((x1 || !isOnB P A B x y f) = Bool.true → (16 : Int) = e) ∧ ((x1 || !isOnB P A B x y f) = Bool.false → (0 : Int) = e)) := by kernel_rfl
-- END VC
-- VC vc_CurveChecks HASH 327ecc065eed7bee
theorem vc_CurveChecks (P A B N X Y x y : Nat) (F f : Bool) :
    Owes Try.prog cxCC [] 10 Try.f3 [sCv P A B N X Y F, sPt x y f] yes =
    (let x1 : Bool := ckE P A B N X Y F == ckE P A B N X Y F; let x2 : Int := havT P A B x y f (ckE P A B N X Y F); (x1 = Bool.true → x1 = Bool.true) ∧ (x1 = Bool.true → x1 = Bool.true) ∧ (x1 = Bool.true → x1 = Bool.true) ∧ (x1 && x2 == x2) = Bool.true) := by kernel_rfl
-- END VC
end Go.Proofs.Ytjokmekclibpmaa
end

section
/-
  What hands note, told by what a curve and its points are.
-/
namespace Go.Proofs.Ytjokmekclibpmaa
open Go.Sx

def rB (a m : Nat) : Bool := decide (a % M256 < m % M256)
theorem rB_iff {a m : Nat} : rB a m = true ↔ a % M256 < m % M256 := decide_eq_true_iff
theorem nt_nt (a b : Bool) (n : Int) : nt a (nt b n) = nt (b && a) n := by cases a <;> cases b <;> rfl
theorem okF_b (a b m : Nat) : okF a b m = (rB a m && rB b m) := by
  unfold okF fE rB
  by_cases h0 : m % M256 = 0
  · rw [if_pos h0, decide_eq_false (by omega)]
    rfl
  · rw [if_neg h0]
    by_cases h1 : a % M256 < m % M256
    · by_cases h2 : b % M256 < m % M256
      · rw [if_pos ⟨h1, h2⟩, decide_eq_true h1, decide_eq_true h2]; rfl
      · rw [if_neg (fun h => h2 h.2), decide_eq_true h1, decide_eq_false h2]; rfl
    · rw [if_neg (fun h => h1 h.1), decide_eq_false h1]; rfl
theorem fE_b {a b m : Nat} (h1 : rB a m = true) (h2 : rB b m = true) : fE a b m = 0 := fE_zero (rB_iff.1 h1) (rB_iff.1 h2)
theorem rB_pos {a m : Nat} (h : rB a m = true) : 0 < m % M256 := Nat.lt_of_le_of_lt (Nat.zero_le _) (rB_iff.1 h)
theorem mdM {m : Nat} (h : 0 < m % M256) (v : Nat) : v % (m % M256) % M256 = v % (m % M256) := mod_M (Nat.mod_lt v h)
theorem rB_mod {m : Nat} (h : 0 < m % M256) (v : Nat) : rB (v % (m % M256)) m = true := by rw [rB_iff, mdM h]; exact Nat.mod_lt v h
theorem rB_zero {m : Nat} (h : 0 < m % M256) : rB 0 m = true := by rw [rB_iff, Nat.zero_mod]; exact h
theorem rB_no {a m : Nat} (h : ¬ 0 < m % M256) : rB a m = false := by unfold rB; exact decide_eq_false (by omega)
theorem rB_hM {m : Nat} (h : 0 < m % M256) (a b : Nat) : rB (hMV m a b) m = true := by
  unfold hMV; split
  · exact rB_mod h _
  · exact rB_zero h
theorem rB_hA {m : Nat} (h : 0 < m % M256) (a b : Nat) : rB (hAV m a b) m = true := by
  unfold hAV; split
  · exact rB_mod h _
  · exact rB_zero h
theorem rB_h3 {m : Nat} (h : 0 < m % M256) (a : Nat) : rB (h3V m a) m = true := rB_hA h _ _
theorem hMV_of {a b m : Nat} (h1 : rB a m = true) (h2 : rB b m = true) : hMV m a b = a % M256 * (b % M256) % (m % M256) := if_pos (fE_b h1 h2)
theorem hAV_of {a b m : Nat} (h1 : rB a m = true) (h2 : rB b m = true) : hAV m a b = (a % M256 + b % M256) % (m % M256) := if_pos (fE_b h1 h2)
theorem h3V_of {a m : Nat} (h1 : rB a m = true) : h3V m a = tw3 (m % M256) (a % M256) := by
  have hp := rB_pos h1
  unfold h3V tw3
  rw [hAV_of h1 (rB_hA hp _ _), hAV_of h1 h1, mdM hp]

theorem h3T_eq (m a : Nat) (n : Int) : h3T m a n = nt (rB a m) n := by
  unfold h3T
  by_cases hp : 0 < m % M256
  · simp only [nt_nt, okF_b, rB_hA hp]
    cases rB a m <;> rfl
  · simp only [nt_nt, okF_b, rB_no hp, Bool.false_and]
theorem rgtT_eq (m A B x : Nat) (n : Int) : rgtT m A B x n = nt (rB x m && (rB A m && rB B m)) n := by
  unfold rgtT
  by_cases hp : 0 < m % M256
  · simp only [nt_nt, okF_b, rB_hA hp, rB_hM hp]
    cases rB x m <;> cases rB A m <;> cases rB B m <;> rfl
  · simp only [nt_nt, okF_b, rB_no hp, Bool.false_and]
theorem rgtV_of {m A B x : Nat} (hx : rB x m = true) (hA : rB A m = true) (hB : rB B m = true) : rgtV m A B x = rhsN (m % M256) (A % M256) (B % M256) (x % M256) := by
  have hp := rB_pos hx
  unfold rgtV rhsN
  rw [hAV_of (rB_hA hp _ _) hB, hAV_of (rB_hM hp _ _) (rB_hM hp _ _), hMV_of hx (rB_hM hp _ _), hMV_of hx hx, hMV_of hA hx]
  simp only [mdM hp]
theorem slpT_eq (m A B : Nat) (n : Int) : slpT m A B n = nt (rB A m && rB B m) n := by
  unfold slpT
  by_cases hp : 0 < m % M256
  · simp only [h3T_eq, nt_nt, okF_b, rB_hA hp, rB_hM hp, rB_h3 hp]
    cases rB A m <;> cases rB B m <;> rfl
  · simp only [h3T_eq, nt_nt, okF_b, rB_no hp, Bool.false_and]
theorem slpV_of {m A B : Nat} (hA : rB A m = true) (hB : rB B m = true) : slpV m A B = slopesN (m % M256) (A % M256) (B % M256) := by
  have hp := rB_pos hA
  unfold slpV slopesN
  rw [hAV_of (rB_hA hp _ _) (rB_h3 hp _), hAV_of (rB_hA hp _ _) (rB_hA hp _ _), hAV_of (rB_hM hp _ _) (rB_hM hp _ _), hMV_of hA (rB_hM hp _ _), hMV_of hA hA, h3V_of (rB_h3 hp _), h3V_of (rB_h3 hp _), h3V_of (rB_hM hp _ _), hMV_of hB hB]
  unfold tw3
  simp only [mdM hp]
/-- Is a point one of a curve? -/
def haB (m A B x y : Nat) (f : Bool) : Bool := cond f (x % M256 == 0 && y % M256 == 0) (rB x m && (rB y m && (y % M256 * (y % M256) % (m % M256) == rhsN (m % M256) (A % M256) (B % M256) (x % M256))))
theorem havT_eq {m A B : Nat} (hA : rB A m = true) (hB : rB B m = true) (x y : Nat) (f : Bool) (n : Int) : havT m A B x y f n = nt (haB m A B x y f) n := by
  have hp := rB_pos hA
  unfold havT haB
  cases f with
  | true => rfl
  | false =>
    show nt _ (rgtT m A B x (nt (okF y y m) n)) = _
    rw [rgtT_eq, nt_nt, nt_nt, okF_b, hA, hB]
    cases hx : rB x m
    · cases rB y m <;> rfl
    · cases hy : rB y m
      · rfl
      · rw [hMV_of hy hy, rgtV_of hx hA hB, mdM hp, show rhsN (m % M256) (A % M256) (B % M256) (x % M256) % M256 = rhsN (m % M256) (A % M256) (B % M256) (x % M256) from mdM hp _]
        rfl
/-- May it be a curve? -/
def gdB (P A B N X Y : Nat) (F : Bool) : Bool :=
  decide (3 < P % M256) && (decide (P % M256 % 4 = 3) && (rB A P && (rB B P && (decide (1 < N % M256) && (!(slopesN (P % M256) (A % M256) (B % M256) == 0) && (!F && haB P A B X Y F))))))
theorem havT_16 (m A B x y : Nat) (f : Bool) : havT m A B x y f 16 = 16 := by
  have h16 : ∀ b, nt b 16 = 16 := fun b => by cases b <;> rfl
  unfold havT
  rw [h16, h16, rgtT_eq, h16, h16]
  cases f <;> rfl
theorem ckE_eq (P A B N X Y : Nat) (F : Bool) : ckE P A B N X Y F = nt (gdB P A B N X Y F) 0 := by
  unfold ckE mbeT gdB
  rw [slpT_eq]
  cases hA : rB A P with
  | false =>
    simp only [nt_nt, Bool.false_and, Bool.and_false]
    exact havT_16 _ _ _ _ _ _
  | true => cases hB : rB B P with
    | false =>
      simp only [nt_nt, Bool.false_and, Bool.and_false]
      exact havT_16 _ _ _ _ _ _
    | true =>
      have hp := rB_pos hA
      rw [havT_eq hA hB, slpV_of hA hB, show slopesN (P % M256) (A % M256) (B % M256) % M256 = slopesN (P % M256) (A % M256) (B % M256) from mdM hp _]
      simp only [nt_nt]
      congr 1
      cases decide (3 < P % M256) <;> cases decide (P % M256 % 4 = 3) <;> cases decide (1 < N % M256) <;> cases (slopesN (P % M256) (A % M256) (B % M256) == 0) <;> cases F <;> simp
theorem gdB_A {P A B N X Y : Nat} {F : Bool} (h : gdB P A B N X Y F = true) : 3 < P % M256 ∧ P % M256 % 4 = 3 ∧ rB A P = true ∧ rB B P = true ∧ 1 < N % M256 ∧ haB P A B X Y F = true ∧ F = false := by
  unfold gdB at h
  simp only [Bool.and_eq_true, decide_eq_true_eq, Bool.not_eq_true'] at h
  exact ⟨h.1, h.2.1, h.2.2.1, h.2.2.2.1, h.2.2.2.2.1, h.2.2.2.2.2.2.2, h.2.2.2.2.2.2.1⟩
end Go.Proofs.Ytjokmekclibpmaa
end

section
/-
  Package curve: sums, and what is asked of a curve and of its points.
-/
namespace Go.Proofs.Ytjokmekclibpmaa
open Go.Sx

theorem conj_one (a : Bool) : conj [a] = a := by rw [conj_all]; simp
theorem ok_Ck (ls : List (List At)) (vs : List (Option Addr)) (hc : Ok (ckC ls)) : OwesU Try.prog cyCk [] [] 10 Try.f7 (mkArgs [.str pCv] ls vs) (ckG ls) := by
  unfold ckC at hc
  split at hc
  · rename_i P A B N X Y F
    show OwesU Try.prog cyCk [] [] 10 Try.f7 [sCv P A B N X Y F] (.one (sI .i64 (ckE P A B N X Y F)))
    rw [wc_Check]
    rfl
  · exact hc.1.elim
theorem ok_OnW (ls : List (List At)) (vs : List (Option Addr)) (hc : Ok (onC ls)) : OwesU Try.prog cyOn [] [] 10 Try.f8 (mkArgs [.str pCv, .str pPt] ls vs) (onG ls) := by
  unfold onC at hc
  split at hc
  · rename_i P A B N X Y F x y f
    show OwesU Try.prog cyOn [] [] 10 Try.f8 [sCv P A B N X Y F, sPt x y f] (.one (sI .i64 (havT P A B x y f (ckE P A B N X Y F))))
    rw [wc_On]
    rfl
  · exact hc.1.elim
theorem xcard_Check : FnOK Try.prog 7 (specA [.str pCv] ckC ckG) :=
  FnOKU_A (cx := cyCk) (iv := fun _ => []) (CxOK_wcons wcard_be CxOK_wnil) wNone Try.func7 (by kernel_rfl) (by kernel_rfl) (fun ls => by unfold ckG; split; exact bnd_one (bnd_I _ _); exact bnd_none) ok_Ck
theorem xcard_On : FnOK Try.prog 8 (specA [.str pCv, .str pPt] onC onG) :=
  FnOKU_A (cx := cyOn) (iv := fun _ => []) (CxOK_wcons wcard_be (CxOK_wcons wcard_have CxOK_wnil)) wNone Try.func8 (by kernel_rfl) (by kernel_rfl) (fun ls => by unfold onG; split; exact bnd_one (bnd_I _ _); exact bnd_none) ok_OnW
end Go.Proofs.Ytjokmekclibpmaa
end
