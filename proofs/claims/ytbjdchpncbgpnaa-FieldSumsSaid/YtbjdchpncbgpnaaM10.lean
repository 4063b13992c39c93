/-
  Texts: P104, V63, P105, P106, P107, V1, V2, V5, V7, V6, V4, P1, P2, P3, P4, P5, P6, P7, C1, C2, P9, P12.
-/
import Derived.Test.YtbjdchpncbgpnaaM1
import Derived.Test.YtbjdchpncbgpnaaM2
import Derived.Test.YtbjdchpncbgpnaaM3
import Derived.Test.YtbjdchpncbgpnaaM4
import Derived.Test.YtbjdchpncbgpnaaM5
import Derived.Test.YtbjdchpncbgpnaaM6
import Derived.Test.YtbjdchpncbgpnaaM7
import Derived.Test.YtbjdchpncbgpnaaM8
import Derived.Test.YtbjdchpncbgpnaaM9
import Derived.Test.YtbjdchpncbgpnaaChecked
import Derived.Test.YtbjdchpncbgpnaaRows
import Derived.Lib.Mul64
section
/-
  The reference's rows of digits: cards.
-/
namespace Go.Proofs.Ytbjdchpncbgpnaa
open Go Go.Sx Go.RowKit

theorem cx_none : CxOK Try.prog .none := fun p hp => by cases hp
theorem cx_R : CxOK Try.prog cxR := fun p hp => by
  simp only [cxR, markR, List.mem_cons, List.not_mem_nil, or_false] at hp
  subst hp
  exact fun args ps sv hs => by cases hs
theorem sl_nil : ∀ p ∈ ([] : List (Nat × SSpec)), FnOKs Try.prog [] p.1 p.2 := fun p hp => by cases hp
theorem closed_s {n : Nat} {g : Nat → Int} : ∀ x ∈ [RS.s n .u64 g], x.closed := fun x hx => by
  simp only [List.mem_singleton] at hx
  subst hx
  trivial
theorem card_dOf : FnOKs Try.prog [] 41 (specUR ofR) :=
  FnOKs_UR (iv := fun _ => []) cx_none sl_nil Try.func41 (by kernel_rfl) (by kernel_rfl) (fun _ => closed_s) ok_dOf
theorem card_dPlus : FnOKs Try.prog [] 40 (specDD false dg2C plusR) :=
  FnOKs_DD (iv := fun a n c f b m d h => [(4, .inv1 (invPlus a n c f b m d h (PlusP (vn n f) (vn m h))))]) cx_R sl_nil Try.func40 (by kernel_rfl) (by kernel_rfl) (fun _ _ _ _ => closed_s) fun a n c f b m d h ⟨h1, h2, h3, h4, _⟩ => ok_dPlus a n c f b m d h h1 h2 h3 h4
theorem card_dTimes : FnOKs Try.prog [] 52 (specDD false dg2C timesR) :=
  FnOKs_DD (iv := fun a n c f b m d h => [(3, .inv (invTi a n c f b m d h (TimesP (vn n f) (vn m h) n m))), (7, .invR (invTj a n c f b m d h (TimesQ (vn n f) (vn m h) n m)) fun y z => z.1 = y.1)]) cx_R sl_nil Try.func52 (by kernel_rfl) (by kernel_rfl) (fun _ _ _ _ => closed_s) fun a n c f b m d h ⟨h1, h2, h3, h4, _⟩ => ok_dTimes a n c f b m d h h1 h2 h3 h4
theorem card_dCompare : FnOKs Try.prog [] 42 (specDD false dg2C cmpR) :=
  FnOKs_DD (iv := fun a n c f b m d h => [(2, .inv (invCmp a n c f b m d h fun k => vn n f / 4294967296 ^ k = vn m h / 4294967296 ^ k))]) cx_R sl_nil Try.func42 (by kernel_rfl) (by kernel_rfl) (fun _ _ _ _ x hx => by simp only [cmpR, List.mem_singleton] at hx; subst hx; trivial) fun a n c f b m d h ⟨h1, h2, h3, h4, _⟩ => ok_compare a n c f b m d h h1 h2 h3 h4
theorem card_dLess : FnOKs Try.prog [] 44 (specDD false lessC lessR) :=
  FnOKs_DD (iv := fun a n c f b m d h => [(4, .inv (invLess b m d h n (LessP (vn n f) (vn m h) n)))]) cx_R sl_nil Try.func44 (by kernel_rfl) (by kernel_rfl) (fun _ _ _ _ => closed_s) fun a n c f b m d h ⟨h1, h2, h3, h4, h5, _⟩ => ok_dLess a n c f b m d h h1 h2 h3 h4 h5
theorem card_dShorn : FnOKs Try.prog [] 48 (specD true dgsC shornR) :=
  FnOKs_D (iv := fun a n c f => [(1, .inv (invShorn f fun k => k ≤ n ∧ vn n f < 4294967296 ^ k))]) cx_R sl_nil Try.func48 (by kernel_rfl) (by kernel_rfl) (fun _ _ => closed_s) fun a n c f ⟨h1, h2, _⟩ => ok_shorn a n c f h1 h2
theorem sl_shorn : ∀ p ∈ slShorn, FnOKs Try.prog [] p.1 p.2 := fun p hp => by
  simp only [slShorn, List.mem_cons, List.not_mem_nil, or_false] at hp
  subst hp
  exact card_dShorn
theorem card_dSmall : FnOKs Try.prog [] 49 (specD false dgsC smallR) :=
  FnOKs_D (iv := fun _ _ _ _ => []) cx_R sl_shorn Try.func49 (by kernel_rfl) (by kernel_rfl) (fun _ _ x hx => by simp only [smallR, List.mem_cons, List.not_mem_nil, or_false] at hx; rcases hx with rfl | rfl <;> trivial) fun a n c f ⟨h1, h2, _⟩ => ok_small a n c f h1 h2
theorem card_dWide : FnOKs Try.prog [] 39 (specD false dgsC wideR) :=
  FnOKs_D (iv := fun a n c f => [(4, .inv (invWide a n c f (fun y => vn n f % 4294967296 ^ min y 8) (fun y => decide (M256 ≤ vn n f % 4294967296 ^ y))))]) cx_R sl_nil Try.func39 (by kernel_rfl) (by kernel_rfl) (fun _ _ x hx => by
    simp only [wideR, List.mem_cons, List.not_mem_nil, or_false] at hx
    rcases hx with rfl | rfl
    · exact bnd_Un _
    · trivial) fun a n c f ⟨h1, h2, _⟩ => ok_wide a n c f h1 h2
theorem sl_wide : ∀ p ∈ slWide, FnOKs Try.prog [] p.1 p.2 := fun p hp => by
  simp only [slWide, List.mem_cons, List.not_mem_nil, or_false] at hp
  subst hp
  exact card_dWide
theorem card_dCut : FnOKs Try.prog [] 43 (specD false dgsC cutR) :=
  FnOKs_D (iv := fun _ _ _ _ => []) cx_R sl_wide Try.func43 (by kernel_rfl) (by kernel_rfl) (fun _ _ x hx => by simp only [cutR, List.mem_singleton] at hx; subst hx; exact bnd_Un _) fun a n c f ⟨h1, h2, _⟩ => ok_cut a n c f h1 h2
theorem sl_dg : ∀ p ∈ slDg, FnOKs Try.prog [] p.1 p.2 := fun p hp => by
  simp only [slDg, List.mem_cons, List.not_mem_nil, or_false] at hp
  rcases hp with rfl | rfl | rfl | rfl | rfl | rfl | rfl | rfl | rfl
  · exact card_dOf
  · exact card_dPlus
  · exact card_dTimes
  · exact card_dCompare
  · exact card_dLess
  · exact card_dShorn
  · exact card_dSmall
  · exact card_dWide
  · exact card_dCut
theorem card_dDivided : FnOKs Try.prog [] 46 (specDD true dvdC dvdR) :=
  FnOKs_DD (iv := fun a n c f b m d h => [(6, .inv (invD1 a n c f b m d h (D1P (vn n f) (vn m h) n))), (13, .inv (invD2 a n c f b m d h (D2P (vn n f) (vn m h) n))), (15, .cut (cutD a n c f b m d h (DcP (vn n f) (vn m h) n)) (fun y z => z.1 = y.1)), (17, .invR (invD3 a n c f b m d h (D3P (vn n f) (vn m h) n)) (fun y z => z.1 = y.1))]) cx_R sl_dg Try.func46 (by kernel_rfl) (by kernel_rfl) (fun _ _ _ _ x hx => by simp only [dvdR, List.mem_cons, List.not_mem_nil, or_false] at hx; rcases hx with rfl | rfl <;> trivial) fun a n c f b m d h ⟨h1, h2, h3, h4, h5, _⟩ => ok_divided a n c f b m d h h1 h2 h3 h4 h5
/-- All of them. -/
def slAll : List (Nat × SSpec) := (46, specDD true dvdC dvdR) :: slDg
theorem sl_all : ∀ p ∈ slAll, FnOKs Try.prog [] p.1 p.2 := fun p hp => by
  rcases List.mem_cons.1 hp with rfl | hp
  · exact card_dDivided
  · exact sl_dg p hp
end Go.Proofs.Ytbjdchpncbgpnaa
end

section
/-
  The reference's wide numbers, and those by a modulus: reckoned by the kernel. (Laid by program.)
-/
namespace Go.Proofs.Ytbjdchpncbgpnaa
open Go Go.Sx Go.RowKit
set_option maxRecDepth 100000
def restUC (n : Nat) (f : Nat → Int) (m : Nat) : List Prop := [dgs n f, n ≤ 1000, m % M256 ≠ 0]
def restUR (n : Nat) (f : Nat → Int) (m : Nat) : List RS := [.v (sU (vn n f % (m % M256)))]
def slRest : List (Nat × SSpec) := (79, specDU restUC restUR) :: slAll
def modC (_ _ m : Nat) : List Prop := [m % M256 ≠ 0]
def totG (a b m : Nat) : SV := .one (sU ((a % M256 + b % M256) % (m % M256)))
def proC (a b m : Nat) : List Prop := [m % M256 ≠ 0, a % M256 < m % M256, b % M256 < m % M256]
def proG (a b m : Nat) : SV := .one (sU (a % M256 * (b % M256) % (m % M256)))
def oppC (a m : Nat) : List Prop := [a % M256 ≤ m % M256]
def oppG (a m : Nat) : SV := .one (sU (if a % M256 = 0 then 0 else m % M256 - a % M256))
def ordG (a b : Nat) : SV := .one (sI .i64 (cmpI (a % M256) (b % M256)))
def cxMod : Cx := [(78, specUU ordG), (59, specUUU modC totG), (60, specUUC oppC oppG), (61, specUUU proC proG)]
-- VC vc_refOrd HASH ba0331c4e576a38c
theorem vc_refOrd (a b : Nat) :
    OwesV Try.prog .none slAll [] 4 Try.f78 [sU a, sU b] (ordG a b) =
    (let x1 : Nat := a % Go.Sx.M256; let x2 : Nat := b % Go.Sx.M256; ((∀ (a : Option Go.Addr) (cap : Nat), (a = Option.none → (8 : Nat) = (0 : Nat) ∧ cap = (0 : Nat)) → (8 : Nat) ≤ cap → ∀ (a : Option Go.Addr) (cap : Nat), (a = Option.none → (8 : Nat) = (0 : Nat) ∧ cap = (0 : Nat)) → (8 : Nat) ≤ cap → (∀ (_ : Nat), True) ∧ (∀ (_ : Nat), True) ∧ (Go.Sx.dgs (8 : Nat) fun (i : Nat) => Go.Sx.intsC (Go.Sx.SC.val (Go.Value.int Go.IntKind.u64 (Go.Sx.dg x1 i)))) ∧ (8 : Nat) ≤ (1000 : Nat) ∧ (Go.Sx.dgs (8 : Nat) fun (i : Nat) => Go.Sx.intsC (Go.Sx.SC.val (Go.Value.int Go.IntKind.u64 (Go.Sx.dg x2 i)))) ∧ (8 : Nat) ≤ (1000 : Nat) ∧ Go.Sx.cmpI (Go.Sx.vn (8 : Nat) fun (i : Nat) => Go.Sx.dg x1 i) (Go.Sx.vn (8 : Nat) fun (i : Nat) => Go.Sx.dg x2 i) = Go.Sx.cmpI x1 x2) ∧ ∀ (a : Option Go.Addr) (cap : Nat), (a = Option.none → (8 : Nat) = (0 : Nat) ∧ cap = (0 : Nat)) → (8 : Nat) ≤ cap → ∀ (a : Option Go.Addr) (cap : Nat), (a = Option.none → (8 : Nat) = (0 : Nat) ∧ cap = (0 : Nat)) → (8 : Nat) ≤ cap → (∀ (_ : Nat), True) ∧ (∀ (_ : Nat), True) ∧ (Go.Sx.dgs (8 : Nat) fun (i : Nat) => Go.Sx.intsC (Go.Sx.SC.val (Go.Value.int Go.IntKind.u64 (Go.Sx.dg x1 i)))) ∧ (8 : Nat) ≤ (1000 : Nat) ∧ (Go.Sx.dgs (8 : Nat) fun (i : Nat) => Go.Sx.intsC (Go.Sx.SC.val (Go.Value.int Go.IntKind.u64 (Go.Sx.dg x2 i)))) ∧ (8 : Nat) ≤ (1000 : Nat) ∧ Go.Sx.cmpI (Go.Sx.vn (8 : Nat) fun (i : Nat) => Go.Sx.dg x1 i) (Go.Sx.vn (8 : Nat) fun (i : Nat) => Go.Sx.dg x2 i) = Go.Sx.cmpI x1 x2) ∧ ∀ (a : Option Go.Addr) (cap : Nat), (a = Option.none → (8 : Nat) = (0 : Nat) ∧ cap = (0 : Nat)) → (8 : Nat) ≤ cap → ∀ (a : Option Go.Addr) (cap : Nat), (a = Option.none → (8 : Nat) = (0 : Nat) ∧ cap = (0 : Nat)) → (8 : Nat) ≤ cap → (∀ (_ : Nat), True) ∧ (∀ (_ : Nat), True) ∧ (Go.Sx.dgs (8 : Nat) fun (i : Nat) => Go.Sx.intsC (Go.Sx.SC.val (Go.Value.int Go.IntKind.u64 (Go.Sx.dg x1 i)))) ∧ (8 : Nat) ≤ (1000 : Nat) ∧ (Go.Sx.dgs (8 : Nat) fun (i : Nat) => Go.Sx.intsC (Go.Sx.SC.val (Go.Value.int Go.IntKind.u64 (Go.Sx.dg x2 i)))) ∧ (8 : Nat) ≤ (1000 : Nat) ∧ Go.Sx.cmpI (Go.Sx.vn (8 : Nat) fun (i : Nat) => Go.Sx.dg x1 i) (Go.Sx.vn (8 : Nat) fun (i : Nat) => Go.Sx.dg x2 i) = Go.Sx.cmpI x1 x2) := by kernel_rfl
-- END VC
-- VC vc_refRest HASH c3736961cf1d2ee5
theorem vc_refRest (a : Option Addr) (n c : Nat) (f : Nat → Int) (m : Nat) :
    OwesR Try.prog .none slAll [] 4 Try.f79 [xsI a n c .u64 f, sU m] false (restUR n f m) =
    (let x1 : Nat := m % Go.Sx.M256; let x2 : Nat := Go.Sx.vn (8 : Nat) fun (i : Nat) => Go.Sx.dg x1 i; let x3 : Nat := Go.Sx.remL (Go.Sx.vn n fun (i : Nat) => f i) x2 n; let x4 : Nat := Go.Sx.vn n fun (i : Nat) => Go.Sx.intsC (Go.Sx.SC.val (Go.Value.int Go.IntKind.u64 (f i))); let x5 : Nat := Go.Sx.vn (8 : Nat) fun (i : Nat) => Go.Sx.intsC (Go.Sx.SC.val (Go.Value.int Go.IntKind.u64 (Go.Sx.dg x1 i))); ∀ (a : Option Go.Addr) (cap : Nat), (a = Option.none → (8 : Nat) = (0 : Nat) ∧ cap = (0 : Nat)) → (8 : Nat) ≤ cap → (∀ (_ : Nat), True) ∧ (∀ (_ : Nat), True) ∧ (Go.Sx.dgs n fun (i : Nat) => Go.Sx.intsC (Go.Sx.SC.val (Go.Value.int Go.IntKind.u64 (f i)))) ∧ n ≤ (1000 : Nat) ∧ (Go.Sx.dgs (8 : Nat) fun (i : Nat) => Go.Sx.intsC (Go.Sx.SC.val (Go.Value.int Go.IntKind.u64 (Go.Sx.dg x1 i)))) ∧ (8 : Nat) ≤ (900 : Nat) ∧ x2 ≠ (0 : Nat) ∧ ∀ (a : Option Go.Addr) (cap : Nat), (a = Option.none → n = (0 : Nat) ∧ cap = (0 : Nat)) → n ≤ cap → ∀ (a : Option Go.Addr) (cap : Nat), (a = Option.none → x3 = (0 : Nat) ∧ cap = (0 : Nat)) → x3 ≤ cap → (∀ (_ : Nat), True) ∧ (Go.Sx.dgs (Go.Sx.remL x4 x5 n) fun (i : Nat) => Go.Sx.intsC (Go.Sx.SC.val (Go.Value.int Go.IntKind.u64 (Go.Sx.dg (x4 % x5) i)))) ∧ x3 ≤ (1000 : Nat) ∧ (Go.Sx.vn x3 fun (i : Nat) => Go.Sx.dg ((Go.Sx.vn n fun (i : Nat) => f i) % x2) i) % Go.Sx.M256 % Go.Sx.M256 = Go.Sx.vn n f % x1 % Go.Sx.M256 ∧ True) := by kernel_rfl
-- END VC
-- VC vc_refTot HASH a168cc965ef49cbe
theorem vc_refTot (a b m : Nat) :
    OwesV Try.prog .none slRest [] 4 Try.f59 [sU a, sU b, sU m] (totG a b m) =
    (let x1 : Nat := a % Go.Sx.M256; let x2 : Nat := b % Go.Sx.M256; let x3 : Nat := m % Go.Sx.M256; ((∀ (a : Option Go.Addr) (cap : Nat), (a = Option.none → (8 : Nat) = (0 : Nat) ∧ cap = (0 : Nat)) → (8 : Nat) ≤ cap → ((∀ (a : Option Go.Addr) (cap : Nat), (a = Option.none → (8 : Nat) = (0 : Nat) ∧ cap = (0 : Nat)) → (8 : Nat) ≤ cap → ((∀ (_ : Nat), True) ∧ (∀ (_ : Nat), True) ∧ (Go.Sx.dgs (8 : Nat) fun (i : Nat) => Go.Sx.intsC (Go.Sx.SC.val (Go.Value.int Go.IntKind.u64 (Go.Sx.dg x1 i)))) ∧ (8 : Nat) ≤ (1000 : Nat) ∧ (Go.Sx.dgs (8 : Nat) fun (i : Nat) => Go.Sx.intsC (Go.Sx.SC.val (Go.Value.int Go.IntKind.u64 (Go.Sx.dg x2 i)))) ∧ (8 : Nat) ≤ (1000 : Nat) ∧ ∀ (a : Option Go.Addr) (cap : Nat), (a = Option.none → (9 : Nat) = (0 : Nat) ∧ cap = (0 : Nat)) → (9 : Nat) ≤ cap → (∀ (_ : Nat), True) ∧ (Go.Sx.dgs (9 : Nat) fun (i : Nat) => Go.Sx.intsC (Go.Sx.SC.val (Go.Value.int Go.IntKind.u64 (Go.Sx.dg ((Go.Sx.vn (8 : Nat) fun (i : Nat) => Go.Sx.intsC (Go.Sx.SC.val (Go.Value.int Go.IntKind.u64 (Go.Sx.dg x1 i)))) + Go.Sx.vn (8 : Nat) fun (i : Nat) => Go.Sx.intsC (Go.Sx.SC.val (Go.Value.int Go.IntKind.u64 (Go.Sx.dg x2 i)))) i)))) ∧ (9 : Nat) ≤ (1000 : Nat) ∧ x3 ≠ (0 : Nat) ∧ (Go.Sx.vn (9 : Nat) fun (i : Nat) => Go.Sx.dg ((Go.Sx.vn (8 : Nat) fun (i : Nat) => Go.Sx.dg x1 i) + Go.Sx.vn (8 : Nat) fun (i : Nat) => Go.Sx.dg x2 i) i) % x3 % Go.Sx.M256 = (x1 + x2) % x3 % Go.Sx.M256 ∧ True) ∧ (∀ (_ : Nat), True) ∧ (∀ (_ : Nat), True) ∧ (Go.Sx.dgs (8 : Nat) fun (i : Nat) => Go.Sx.intsC (Go.Sx.SC.val (Go.Value.int Go.IntKind.u64 (Go.Sx.dg x1 i)))) ∧ (8 : Nat) ≤ (1000 : Nat) ∧ (Go.Sx.dgs (8 : Nat) fun (i : Nat) => Go.Sx.intsC (Go.Sx.SC.val (Go.Value.int Go.IntKind.u64 (Go.Sx.dg x2 i)))) ∧ (8 : Nat) ≤ (1000 : Nat) ∧ ∀ (a : Option Go.Addr) (cap : Nat), (a = Option.none → (9 : Nat) = (0 : Nat) ∧ cap = (0 : Nat)) → (9 : Nat) ≤ cap → (∀ (_ : Nat), True) ∧ (Go.Sx.dgs (9 : Nat) fun (i : Nat) => Go.Sx.intsC (Go.Sx.SC.val (Go.Value.int Go.IntKind.u64 (Go.Sx.dg ((Go.Sx.vn (8 : Nat) fun (i : Nat) => Go.Sx.intsC (Go.Sx.SC.val (Go.Value.int Go.IntKind.u64 (Go.Sx.dg x1 i)))) + Go.Sx.vn (8 : Nat) fun (i : Nat) => Go.Sx.intsC (Go.Sx.SC.val (Go.Value.int Go.IntKind.u64 (Go.Sx.dg x2 i)))) i)))) ∧ (9 : Nat) ≤ (1000 : Nat) ∧ x3 ≠ (0 : Nat) ∧ (Go.Sx.vn (9 : Nat) fun (i : Nat) => Go.Sx.dg ((Go.Sx.vn (8 : Nat) fun (i : Nat) => Go.Sx.dg x1 i) + Go.Sx.vn (8 : Nat) fun (i : Nat) => Go.Sx.dg x2 i) i) % x3 % Go.Sx.M256 = (x1 + x2) % x3 % Go.Sx.M256 ∧ True) ∧ ∀ (a : Option Go.Addr) (cap : Nat), (a = Option.none → (8 : Nat) = (0 : Nat) ∧ cap = (0 : Nat)) → (8 : Nat) ≤ cap → (∀ (_ : Nat), True) ∧ (∀ (_ : Nat), True) ∧ (Go.Sx.dgs (8 : Nat) fun (i : Nat) => Go.Sx.intsC (Go.Sx.SC.val (Go.Value.int Go.IntKind.u64 (Go.Sx.dg x1 i)))) ∧ (8 : Nat) ≤ (1000 : Nat) ∧ (Go.Sx.dgs (8 : Nat) fun (i : Nat) => Go.Sx.intsC (Go.Sx.SC.val (Go.Value.int Go.IntKind.u64 (Go.Sx.dg x2 i)))) ∧ (8 : Nat) ≤ (1000 : Nat) ∧ ∀ (a : Option Go.Addr) (cap : Nat), (a = Option.none → (9 : Nat) = (0 : Nat) ∧ cap = (0 : Nat)) → (9 : Nat) ≤ cap → (∀ (_ : Nat), True) ∧ (Go.Sx.dgs (9 : Nat) fun (i : Nat) => Go.Sx.intsC (Go.Sx.SC.val (Go.Value.int Go.IntKind.u64 (Go.Sx.dg ((Go.Sx.vn (8 : Nat) fun (i : Nat) => Go.Sx.intsC (Go.Sx.SC.val (Go.Value.int Go.IntKind.u64 (Go.Sx.dg x1 i)))) + Go.Sx.vn (8 : Nat) fun (i : Nat) => Go.Sx.intsC (Go.Sx.SC.val (Go.Value.int Go.IntKind.u64 (Go.Sx.dg x2 i)))) i)))) ∧ (9 : Nat) ≤ (1000 : Nat) ∧ x3 ≠ (0 : Nat) ∧ (Go.Sx.vn (9 : Nat) fun (i : Nat) => Go.Sx.dg ((Go.Sx.vn (8 : Nat) fun (i : Nat) => Go.Sx.dg x1 i) + Go.Sx.vn (8 : Nat) fun (i : Nat) => Go.Sx.dg x2 i) i) % x3 % Go.Sx.M256 = (x1 + x2) % x3 % Go.Sx.M256 ∧ True) ∧ ∀ (a : Option Go.Addr) (cap : Nat), (a = Option.none → (8 : Nat) = (0 : Nat) ∧ cap = (0 : Nat)) → (8 : Nat) ≤ cap → (∀ (_ : Nat), True) ∧ (∀ (_ : Nat), True) ∧ (Go.Sx.dgs (8 : Nat) fun (i : Nat) => Go.Sx.intsC (Go.Sx.SC.val (Go.Value.int Go.IntKind.u64 (Go.Sx.dg x1 i)))) ∧ (8 : Nat) ≤ (1000 : Nat) ∧ (Go.Sx.dgs (8 : Nat) fun (i : Nat) => Go.Sx.intsC (Go.Sx.SC.val (Go.Value.int Go.IntKind.u64 (Go.Sx.dg x2 i)))) ∧ (8 : Nat) ≤ (1000 : Nat) ∧ ∀ (a : Option Go.Addr) (cap : Nat), (a = Option.none → (9 : Nat) = (0 : Nat) ∧ cap = (0 : Nat)) → (9 : Nat) ≤ cap → (∀ (_ : Nat), True) ∧ (Go.Sx.dgs (9 : Nat) fun (i : Nat) => Go.Sx.intsC (Go.Sx.SC.val (Go.Value.int Go.IntKind.u64 (Go.Sx.dg ((Go.Sx.vn (8 : Nat) fun (i : Nat) => Go.Sx.intsC (Go.Sx.SC.val (Go.Value.int Go.IntKind.u64 (Go.Sx.dg x1 i)))) + Go.Sx.vn (8 : Nat) fun (i : Nat) => Go.Sx.intsC (Go.Sx.SC.val (Go.Value.int Go.IntKind.u64 (Go.Sx.dg x2 i)))) i)))) ∧ (9 : Nat) ≤ (1000 : Nat) ∧ x3 ≠ (0 : Nat) ∧ (Go.Sx.vn (9 : Nat) fun (i : Nat) => Go.Sx.dg ((Go.Sx.vn (8 : Nat) fun (i : Nat) => Go.Sx.dg x1 i) + Go.Sx.vn (8 : Nat) fun (i : Nat) => Go.Sx.dg x2 i) i) % x3 % Go.Sx.M256 = (x1 + x2) % x3 % Go.Sx.M256 ∧ True) ∧ ((∀ (a : Option Go.Addr) (cap : Nat), (a = Option.none → (8 : Nat) = (0 : Nat) ∧ cap = (0 : Nat)) → (8 : Nat) ≤ cap → (∀ (a : Option Go.Addr) (cap : Nat), (a = Option.none → (8 : Nat) = (0 : Nat) ∧ cap = (0 : Nat)) → (8 : Nat) ≤ cap → ((∀ (_ : Nat), True) ∧ (∀ (_ : Nat), True) ∧ (Go.Sx.dgs (8 : Nat) fun (i : Nat) => Go.Sx.intsC (Go.Sx.SC.val (Go.Value.int Go.IntKind.u64 (Go.Sx.dg x1 i)))) ∧ (8 : Nat) ≤ (1000 : Nat) ∧ (Go.Sx.dgs (8 : Nat) fun (i : Nat) => Go.Sx.intsC (Go.Sx.SC.val (Go.Value.int Go.IntKind.u64 (Go.Sx.dg x2 i)))) ∧ (8 : Nat) ≤ (1000 : Nat) ∧ ∀ (a : Option Go.Addr) (cap : Nat), (a = Option.none → (9 : Nat) = (0 : Nat) ∧ cap = (0 : Nat)) → (9 : Nat) ≤ cap → (∀ (_ : Nat), True) ∧ (Go.Sx.dgs (9 : Nat) fun (i : Nat) => Go.Sx.intsC (Go.Sx.SC.val (Go.Value.int Go.IntKind.u64 (Go.Sx.dg ((Go.Sx.vn (8 : Nat) fun (i : Nat) => Go.Sx.intsC (Go.Sx.SC.val (Go.Value.int Go.IntKind.u64 (Go.Sx.dg x1 i)))) + Go.Sx.vn (8 : Nat) fun (i : Nat) => Go.Sx.intsC (Go.Sx.SC.val (Go.Value.int Go.IntKind.u64 (Go.Sx.dg x2 i)))) i)))) ∧ (9 : Nat) ≤ (1000 : Nat) ∧ x3 ≠ (0 : Nat) ∧ (Go.Sx.vn (9 : Nat) fun (i : Nat) => Go.Sx.dg ((Go.Sx.vn (8 : Nat) fun (i : Nat) => Go.Sx.dg x1 i) + Go.Sx.vn (8 : Nat) fun (i : Nat) => Go.Sx.dg x2 i) i) % x3 % Go.Sx.M256 = (x1 + x2) % x3 % Go.Sx.M256 ∧ True) ∧ (∀ (_ : Nat), True) ∧ (∀ (_ : Nat), True) ∧ (Go.Sx.dgs (8 : Nat) fun (i : Nat) => Go.Sx.intsC (Go.Sx.SC.val (Go.Value.int Go.IntKind.u64 (Go.Sx.dg x1 i)))) ∧ (8 : Nat) ≤ (1000 : Nat) ∧ (Go.Sx.dgs (8 : Nat) fun (i : Nat) => Go.Sx.intsC (Go.Sx.SC.val (Go.Value.int Go.IntKind.u64 (Go.Sx.dg x2 i)))) ∧ (8 : Nat) ≤ (1000 : Nat) ∧ ∀ (a : Option Go.Addr) (cap : Nat), (a = Option.none → (9 : Nat) = (0 : Nat) ∧ cap = (0 : Nat)) → (9 : Nat) ≤ cap → (∀ (_ : Nat), True) ∧ (Go.Sx.dgs (9 : Nat) fun (i : Nat) => Go.Sx.intsC (Go.Sx.SC.val (Go.Value.int Go.IntKind.u64 (Go.Sx.dg ((Go.Sx.vn (8 : Nat) fun (i : Nat) => Go.Sx.intsC (Go.Sx.SC.val (Go.Value.int Go.IntKind.u64 (Go.Sx.dg x1 i)))) + Go.Sx.vn (8 : Nat) fun (i : Nat) => Go.Sx.intsC (Go.Sx.SC.val (Go.Value.int Go.IntKind.u64 (Go.Sx.dg x2 i)))) i)))) ∧ (9 : Nat) ≤ (1000 : Nat) ∧ x3 ≠ (0 : Nat) ∧ (Go.Sx.vn (9 : Nat) fun (i : Nat) => Go.Sx.dg ((Go.Sx.vn (8 : Nat) fun (i : Nat) => Go.Sx.dg x1 i) + Go.Sx.vn (8 : Nat) fun (i : Nat) => Go.Sx.dg x2 i) i) % x3 % Go.Sx.M256 = (x1 + x2) % x3 % Go.Sx.M256 ∧ True) ∧ ∀ (a : Option Go.Addr) (cap : Nat), (a = Option.none → (8 : Nat) = (0 : Nat) ∧ cap = (0 : Nat)) → (8 : Nat) ≤ cap → (∀ (_ : Nat), True) ∧ (∀ (_ : Nat), True) ∧ (Go.Sx.dgs (8 : Nat) fun (i : Nat) => Go.Sx.intsC (Go.Sx.SC.val (Go.Value.int Go.IntKind.u64 (Go.Sx.dg x1 i)))) ∧ (8 : Nat) ≤ (1000 : Nat) ∧ (Go.Sx.dgs (8 : Nat) fun (i : Nat) => Go.Sx.intsC (Go.Sx.SC.val (Go.Value.int Go.IntKind.u64 (Go.Sx.dg x2 i)))) ∧ (8 : Nat) ≤ (1000 : Nat) ∧ ∀ (a : Option Go.Addr) (cap : Nat), (a = Option.none → (9 : Nat) = (0 : Nat) ∧ cap = (0 : Nat)) → (9 : Nat) ≤ cap → (∀ (_ : Nat), True) ∧ (Go.Sx.dgs (9 : Nat) fun (i : Nat) => Go.Sx.intsC (Go.Sx.SC.val (Go.Value.int Go.IntKind.u64 (Go.Sx.dg ((Go.Sx.vn (8 : Nat) fun (i : Nat) => Go.Sx.intsC (Go.Sx.SC.val (Go.Value.int Go.IntKind.u64 (Go.Sx.dg x1 i)))) + Go.Sx.vn (8 : Nat) fun (i : Nat) => Go.Sx.intsC (Go.Sx.SC.val (Go.Value.int Go.IntKind.u64 (Go.Sx.dg x2 i)))) i)))) ∧ (9 : Nat) ≤ (1000 : Nat) ∧ x3 ≠ (0 : Nat) ∧ (Go.Sx.vn (9 : Nat) fun (i : Nat) => Go.Sx.dg ((Go.Sx.vn (8 : Nat) fun (i : Nat) => Go.Sx.dg x1 i) + Go.Sx.vn (8 : Nat) fun (i : Nat) => Go.Sx.dg x2 i) i) % x3 % Go.Sx.M256 = (x1 + x2) % x3 % Go.Sx.M256 ∧ True) ∧ ∀ (a : Option Go.Addr) (cap : Nat), (a = Option.none → (8 : Nat) = (0 : Nat) ∧ cap = (0 : Nat)) → (8 : Nat) ≤ cap → ∀ (a : Option Go.Addr) (cap : Nat), (a = Option.none → (8 : Nat) = (0 : Nat) ∧ cap = (0 : Nat)) → (8 : Nat) ≤ cap → (∀ (_ : Nat), True) ∧ (∀ (_ : Nat), True) ∧ (Go.Sx.dgs (8 : Nat) fun (i : Nat) => Go.Sx.intsC (Go.Sx.SC.val (Go.Value.int Go.IntKind.u64 (Go.Sx.dg x1 i)))) ∧ (8 : Nat) ≤ (1000 : Nat) ∧ (Go.Sx.dgs (8 : Nat) fun (i : Nat) => Go.Sx.intsC (Go.Sx.SC.val (Go.Value.int Go.IntKind.u64 (Go.Sx.dg x2 i)))) ∧ (8 : Nat) ≤ (1000 : Nat) ∧ ∀ (a : Option Go.Addr) (cap : Nat), (a = Option.none → (9 : Nat) = (0 : Nat) ∧ cap = (0 : Nat)) → (9 : Nat) ≤ cap → (∀ (_ : Nat), True) ∧ (Go.Sx.dgs (9 : Nat) fun (i : Nat) => Go.Sx.intsC (Go.Sx.SC.val (Go.Value.int Go.IntKind.u64 (Go.Sx.dg ((Go.Sx.vn (8 : Nat) fun (i : Nat) => Go.Sx.intsC (Go.Sx.SC.val (Go.Value.int Go.IntKind.u64 (Go.Sx.dg x1 i)))) + Go.Sx.vn (8 : Nat) fun (i : Nat) => Go.Sx.intsC (Go.Sx.SC.val (Go.Value.int Go.IntKind.u64 (Go.Sx.dg x2 i)))) i)))) ∧ (9 : Nat) ≤ (1000 : Nat) ∧ x3 ≠ (0 : Nat) ∧ (Go.Sx.vn (9 : Nat) fun (i : Nat) => Go.Sx.dg ((Go.Sx.vn (8 : Nat) fun (i : Nat) => Go.Sx.dg x1 i) + Go.Sx.vn (8 : Nat) fun (i : Nat) => Go.Sx.dg x2 i) i) % x3 % Go.Sx.M256 = (x1 + x2) % x3 % Go.Sx.M256 ∧ True) ∧ (∀ (a : Option Go.Addr) (cap : Nat), (a = Option.none → (8 : Nat) = (0 : Nat) ∧ cap = (0 : Nat)) → (8 : Nat) ≤ cap → ∀ (a : Option Go.Addr) (cap : Nat), (a = Option.none → (8 : Nat) = (0 : Nat) ∧ cap = (0 : Nat)) → (8 : Nat) ≤ cap → (∀ (_ : Nat), True) ∧ (∀ (_ : Nat), True) ∧ (Go.Sx.dgs (8 : Nat) fun (i : Nat) => Go.Sx.intsC (Go.Sx.SC.val (Go.Value.int Go.IntKind.u64 (Go.Sx.dg x1 i)))) ∧ (8 : Nat) ≤ (1000 : Nat) ∧ (Go.Sx.dgs (8 : Nat) fun (i : Nat) => Go.Sx.intsC (Go.Sx.SC.val (Go.Value.int Go.IntKind.u64 (Go.Sx.dg x2 i)))) ∧ (8 : Nat) ≤ (1000 : Nat) ∧ ∀ (a : Option Go.Addr) (cap : Nat), (a = Option.none → (9 : Nat) = (0 : Nat) ∧ cap = (0 : Nat)) → (9 : Nat) ≤ cap → (∀ (_ : Nat), True) ∧ (Go.Sx.dgs (9 : Nat) fun (i : Nat) => Go.Sx.intsC (Go.Sx.SC.val (Go.Value.int Go.IntKind.u64 (Go.Sx.dg ((Go.Sx.vn (8 : Nat) fun (i : Nat) => Go.Sx.intsC (Go.Sx.SC.val (Go.Value.int Go.IntKind.u64 (Go.Sx.dg x1 i)))) + Go.Sx.vn (8 : Nat) fun (i : Nat) => Go.Sx.intsC (Go.Sx.SC.val (Go.Value.int Go.IntKind.u64 (Go.Sx.dg x2 i)))) i)))) ∧ (9 : Nat) ≤ (1000 : Nat) ∧ x3 ≠ (0 : Nat) ∧ (Go.Sx.vn (9 : Nat) fun (i : Nat) => Go.Sx.dg ((Go.Sx.vn (8 : Nat) fun (i : Nat) => Go.Sx.dg x1 i) + Go.Sx.vn (8 : Nat) fun (i : Nat) => Go.Sx.dg x2 i) i) % x3 % Go.Sx.M256 = (x1 + x2) % x3 % Go.Sx.M256 ∧ True) ∧ ∀ (a : Option Go.Addr) (cap : Nat), (a = Option.none → (8 : Nat) = (0 : Nat) ∧ cap = (0 : Nat)) → (8 : Nat) ≤ cap → ∀ (a : Option Go.Addr) (cap : Nat), (a = Option.none → (8 : Nat) = (0 : Nat) ∧ cap = (0 : Nat)) → (8 : Nat) ≤ cap → (∀ (_ : Nat), True) ∧ (∀ (_ : Nat), True) ∧ (Go.Sx.dgs (8 : Nat) fun (i : Nat) => Go.Sx.intsC (Go.Sx.SC.val (Go.Value.int Go.IntKind.u64 (Go.Sx.dg x1 i)))) ∧ (8 : Nat) ≤ (1000 : Nat) ∧ (Go.Sx.dgs (8 : Nat) fun (i : Nat) => Go.Sx.intsC (Go.Sx.SC.val (Go.Value.int Go.IntKind.u64 (Go.Sx.dg x2 i)))) ∧ (8 : Nat) ≤ (1000 : Nat) ∧ ∀ (a : Option Go.Addr) (cap : Nat), (a = Option.none → (9 : Nat) = (0 : Nat) ∧ cap = (0 : Nat)) → (9 : Nat) ≤ cap → (∀ (_ : Nat), True) ∧ (Go.Sx.dgs (9 : Nat) fun (i : Nat) => Go.Sx.intsC (Go.Sx.SC.val (Go.Value.int Go.IntKind.u64 (Go.Sx.dg ((Go.Sx.vn (8 : Nat) fun (i : Nat) => Go.Sx.intsC (Go.Sx.SC.val (Go.Value.int Go.IntKind.u64 (Go.Sx.dg x1 i)))) + Go.Sx.vn (8 : Nat) fun (i : Nat) => Go.Sx.intsC (Go.Sx.SC.val (Go.Value.int Go.IntKind.u64 (Go.Sx.dg x2 i)))) i)))) ∧ (9 : Nat) ≤ (1000 : Nat) ∧ x3 ≠ (0 : Nat) ∧ (Go.Sx.vn (9 : Nat) fun (i : Nat) => Go.Sx.dg ((Go.Sx.vn (8 : Nat) fun (i : Nat) => Go.Sx.dg x1 i) + Go.Sx.vn (8 : Nat) fun (i : Nat) => Go.Sx.dg x2 i) i) % x3 % Go.Sx.M256 = (x1 + x2) % x3 % Go.Sx.M256 ∧ True) ∧ (((∀ (a : Option Go.Addr) (cap : Nat), (a = Option.none → (8 : Nat) = (0 : Nat) ∧ cap = (0 : Nat)) → (8 : Nat) ≤ cap → (∀ (a : Option Go.Addr) (cap : Nat), (a = Option.none → (8 : Nat) = (0 : Nat) ∧ cap = (0 : Nat)) → (8 : Nat) ≤ cap → ((∀ (_ : Nat), True) ∧ (∀ (_ : Nat), True) ∧ (Go.Sx.dgs (8 : Nat) fun (i : Nat) => Go.Sx.intsC (Go.Sx.SC.val (Go.Value.int Go.IntKind.u64 (Go.Sx.dg x1 i)))) ∧ (8 : Nat) ≤ (1000 : Nat) ∧ (Go.Sx.dgs (8 : Nat) fun (i : Nat) => Go.Sx.intsC (Go.Sx.SC.val (Go.Value.int Go.IntKind.u64 (Go.Sx.dg x2 i)))) ∧ (8 : Nat) ≤ (1000 : Nat) ∧ ∀ (a : Option Go.Addr) (cap : Nat), (a = Option.none → (9 : Nat) = (0 : Nat) ∧ cap = (0 : Nat)) → (9 : Nat) ≤ cap → (∀ (_ : Nat), True) ∧ (Go.Sx.dgs (9 : Nat) fun (i : Nat) => Go.Sx.intsC (Go.Sx.SC.val (Go.Value.int Go.IntKind.u64 (Go.Sx.dg ((Go.Sx.vn (8 : Nat) fun (i : Nat) => Go.Sx.intsC (Go.Sx.SC.val (Go.Value.int Go.IntKind.u64 (Go.Sx.dg x1 i)))) + Go.Sx.vn (8 : Nat) fun (i : Nat) => Go.Sx.intsC (Go.Sx.SC.val (Go.Value.int Go.IntKind.u64 (Go.Sx.dg x2 i)))) i)))) ∧ (9 : Nat) ≤ (1000 : Nat) ∧ x3 ≠ (0 : Nat) ∧ (Go.Sx.vn (9 : Nat) fun (i : Nat) => Go.Sx.dg ((Go.Sx.vn (8 : Nat) fun (i : Nat) => Go.Sx.dg x1 i) + Go.Sx.vn (8 : Nat) fun (i : Nat) => Go.Sx.dg x2 i) i) % x3 % Go.Sx.M256 = (x1 + x2) % x3 % Go.Sx.M256 ∧ True) ∧ (∀ (_ : Nat), True) ∧ (∀ (_ : Nat), True) ∧ (Go.Sx.dgs (8 : Nat) fun (i : Nat) => Go.Sx.intsC (Go.Sx.SC.val (Go.Value.int Go.IntKind.u64 (Go.Sx.dg x1 i)))) ∧ (8 : Nat) ≤ (1000 : Nat) ∧ (Go.Sx.dgs (8 : Nat) fun (i : Nat) => Go.Sx.intsC (Go.Sx.SC.val (Go.Value.int Go.IntKind.u64 (Go.Sx.dg x2 i)))) ∧ (8 : Nat) ≤ (1000 : Nat) ∧ ∀ (a : Option Go.Addr) (cap : Nat), (a = Option.none → (9 : Nat) = (0 : Nat) ∧ cap = (0 : Nat)) → (9 : Nat) ≤ cap → (∀ (_ : Nat), True) ∧ (Go.Sx.dgs (9 : Nat) fun (i : Nat) => Go.Sx.intsC (Go.Sx.SC.val (Go.Value.int Go.IntKind.u64 (Go.Sx.dg ((Go.Sx.vn (8 : Nat) fun (i : Nat) => Go.Sx.intsC (Go.Sx.SC.val (Go.Value.int Go.IntKind.u64 (Go.Sx.dg x1 i)))) + Go.Sx.vn (8 : Nat) fun (i : Nat) => Go.Sx.intsC (Go.Sx.SC.val (Go.Value.int Go.IntKind.u64 (Go.Sx.dg x2 i)))) i)))) ∧ (9 : Nat) ≤ (1000 : Nat) ∧ x3 ≠ (0 : Nat) ∧ (Go.Sx.vn (9 : Nat) fun (i : Nat) => Go.Sx.dg ((Go.Sx.vn (8 : Nat) fun (i : Nat) => Go.Sx.dg x1 i) + Go.Sx.vn (8 : Nat) fun (i : Nat) => Go.Sx.dg x2 i) i) % x3 % Go.Sx.M256 = (x1 + x2) % x3 % Go.Sx.M256 ∧ True) ∧ ∀ (a : Option Go.Addr) (cap : Nat), (a = Option.none → (8 : Nat) = (0 : Nat) ∧ cap = (0 : Nat)) → (8 : Nat) ≤ cap → (∀ (_ : Nat), True) ∧ (∀ (_ : Nat), True) ∧ (Go.Sx.dgs (8 : Nat) fun (i : Nat) => Go.Sx.intsC (Go.Sx.SC.val (Go.Value.int Go.IntKind.u64 (Go.Sx.dg x1 i)))) ∧ (8 : Nat) ≤ (1000 : Nat) ∧ (Go.Sx.dgs (8 : Nat) fun (i : Nat) => Go.Sx.intsC (Go.Sx.SC.val (Go.Value.int Go.IntKind.u64 (Go.Sx.dg x2 i)))) ∧ (8 : Nat) ≤ (1000 : Nat) ∧ ∀ (a : Option Go.Addr) (cap : Nat), (a = Option.none → (9 : Nat) = (0 : Nat) ∧ cap = (0 : Nat)) → (9 : Nat) ≤ cap → (∀ (_ : Nat), True) ∧ (Go.Sx.dgs (9 : Nat) fun (i : Nat) => Go.Sx.intsC (Go.Sx.SC.val (Go.Value.int Go.IntKind.u64 (Go.Sx.dg ((Go.Sx.vn (8 : Nat) fun (i : Nat) => Go.Sx.intsC (Go.Sx.SC.val (Go.Value.int Go.IntKind.u64 (Go.Sx.dg x1 i)))) + Go.Sx.vn (8 : Nat) fun (i : Nat) => Go.Sx.intsC (Go.Sx.SC.val (Go.Value.int Go.IntKind.u64 (Go.Sx.dg x2 i)))) i)))) ∧ (9 : Nat) ≤ (1000 : Nat) ∧ x3 ≠ (0 : Nat) ∧ (Go.Sx.vn (9 : Nat) fun (i : Nat) => Go.Sx.dg ((Go.Sx.vn (8 : Nat) fun (i : Nat) => Go.Sx.dg x1 i) + Go.Sx.vn (8 : Nat) fun (i : Nat) => Go.Sx.dg x2 i) i) % x3 % Go.Sx.M256 = (x1 + x2) % x3 % Go.Sx.M256 ∧ True) ∧ ∀ (a : Option Go.Addr) (cap : Nat), (a = Option.none → (8 : Nat) = (0 : Nat) ∧ cap = (0 : Nat)) → (8 : Nat) ≤ cap → ∀ (a : Option Go.Addr) (cap : Nat), (a = Option.none → (8 : Nat) = (0 : Nat) ∧ cap = (0 : Nat)) → (8 : Nat) ≤ cap → (∀ (_ : Nat), True) ∧ (∀ (_ : Nat), True) ∧ (Go.Sx.dgs (8 : Nat) fun (i : Nat) => Go.Sx.intsC (Go.Sx.SC.val (Go.Value.int Go.IntKind.u64 (Go.Sx.dg x1 i)))) ∧ (8 : Nat) ≤ (1000 : Nat) ∧ (Go.Sx.dgs (8 : Nat) fun (i : Nat) => Go.Sx.intsC (Go.Sx.SC.val (Go.Value.int Go.IntKind.u64 (Go.Sx.dg x2 i)))) ∧ (8 : Nat) ≤ (1000 : Nat) ∧ ∀ (a : Option Go.Addr) (cap : Nat), (a = Option.none → (9 : Nat) = (0 : Nat) ∧ cap = (0 : Nat)) → (9 : Nat) ≤ cap → (∀ (_ : Nat), True) ∧ (Go.Sx.dgs (9 : Nat) fun (i : Nat) => Go.Sx.intsC (Go.Sx.SC.val (Go.Value.int Go.IntKind.u64 (Go.Sx.dg ((Go.Sx.vn (8 : Nat) fun (i : Nat) => Go.Sx.intsC (Go.Sx.SC.val (Go.Value.int Go.IntKind.u64 (Go.Sx.dg x1 i)))) + Go.Sx.vn (8 : Nat) fun (i : Nat) => Go.Sx.intsC (Go.Sx.SC.val (Go.Value.int Go.IntKind.u64 (Go.Sx.dg x2 i)))) i)))) ∧ (9 : Nat) ≤ (1000 : Nat) ∧ x3 ≠ (0 : Nat) ∧ (Go.Sx.vn (9 : Nat) fun (i : Nat) => Go.Sx.dg ((Go.Sx.vn (8 : Nat) fun (i : Nat) => Go.Sx.dg x1 i) + Go.Sx.vn (8 : Nat) fun (i : Nat) => Go.Sx.dg x2 i) i) % x3 % Go.Sx.M256 = (x1 + x2) % x3 % Go.Sx.M256 ∧ True) ∧ ∀ (a : Option Go.Addr) (cap : Nat), (a = Option.none → (8 : Nat) = (0 : Nat) ∧ cap = (0 : Nat)) → (8 : Nat) ≤ cap → ∀ (a : Option Go.Addr) (cap : Nat), (a = Option.none → (8 : Nat) = (0 : Nat) ∧ cap = (0 : Nat)) → (8 : Nat) ≤ cap → (∀ (_ : Nat), True) ∧ (∀ (_ : Nat), True) ∧ (Go.Sx.dgs (8 : Nat) fun (i : Nat) => Go.Sx.intsC (Go.Sx.SC.val (Go.Value.int Go.IntKind.u64 (Go.Sx.dg x1 i)))) ∧ (8 : Nat) ≤ (1000 : Nat) ∧ (Go.Sx.dgs (8 : Nat) fun (i : Nat) => Go.Sx.intsC (Go.Sx.SC.val (Go.Value.int Go.IntKind.u64 (Go.Sx.dg x2 i)))) ∧ (8 : Nat) ≤ (1000 : Nat) ∧ ∀ (a : Option Go.Addr) (cap : Nat), (a = Option.none → (9 : Nat) = (0 : Nat) ∧ cap = (0 : Nat)) → (9 : Nat) ≤ cap → (∀ (_ : Nat), True) ∧ (Go.Sx.dgs (9 : Nat) fun (i : Nat) => Go.Sx.intsC (Go.Sx.SC.val (Go.Value.int Go.IntKind.u64 (Go.Sx.dg ((Go.Sx.vn (8 : Nat) fun (i : Nat) => Go.Sx.intsC (Go.Sx.SC.val (Go.Value.int Go.IntKind.u64 (Go.Sx.dg x1 i)))) + Go.Sx.vn (8 : Nat) fun (i : Nat) => Go.Sx.intsC (Go.Sx.SC.val (Go.Value.int Go.IntKind.u64 (Go.Sx.dg x2 i)))) i)))) ∧ (9 : Nat) ≤ (1000 : Nat) ∧ x3 ≠ (0 : Nat) ∧ (Go.Sx.vn (9 : Nat) fun (i : Nat) => Go.Sx.dg ((Go.Sx.vn (8 : Nat) fun (i : Nat) => Go.Sx.dg x1 i) + Go.Sx.vn (8 : Nat) fun (i : Nat) => Go.Sx.dg x2 i) i) % x3 % Go.Sx.M256 = (x1 + x2) % x3 % Go.Sx.M256 ∧ True) ∧ ((∀ (a : Option Go.Addr) (cap : Nat), (a = Option.none → (8 : Nat) = (0 : Nat) ∧ cap = (0 : Nat)) → (8 : Nat) ≤ cap → ∀ (a : Option Go.Addr) (cap : Nat), (a = Option.none → (8 : Nat) = (0 : Nat) ∧ cap = (0 : Nat)) → (8 : Nat) ≤ cap → (∀ (_ : Nat), True) ∧ (∀ (_ : Nat), True) ∧ (Go.Sx.dgs (8 : Nat) fun (i : Nat) => Go.Sx.intsC (Go.Sx.SC.val (Go.Value.int Go.IntKind.u64 (Go.Sx.dg x1 i)))) ∧ (8 : Nat) ≤ (1000 : Nat) ∧ (Go.Sx.dgs (8 : Nat) fun (i : Nat) => Go.Sx.intsC (Go.Sx.SC.val (Go.Value.int Go.IntKind.u64 (Go.Sx.dg x2 i)))) ∧ (8 : Nat) ≤ (1000 : Nat) ∧ ∀ (a : Option Go.Addr) (cap : Nat), (a = Option.none → (9 : Nat) = (0 : Nat) ∧ cap = (0 : Nat)) → (9 : Nat) ≤ cap → (∀ (_ : Nat), True) ∧ (Go.Sx.dgs (9 : Nat) fun (i : Nat) => Go.Sx.intsC (Go.Sx.SC.val (Go.Value.int Go.IntKind.u64 (Go.Sx.dg ((Go.Sx.vn (8 : Nat) fun (i : Nat) => Go.Sx.intsC (Go.Sx.SC.val (Go.Value.int Go.IntKind.u64 (Go.Sx.dg x1 i)))) + Go.Sx.vn (8 : Nat) fun (i : Nat) => Go.Sx.intsC (Go.Sx.SC.val (Go.Value.int Go.IntKind.u64 (Go.Sx.dg x2 i)))) i)))) ∧ (9 : Nat) ≤ (1000 : Nat) ∧ x3 ≠ (0 : Nat) ∧ (Go.Sx.vn (9 : Nat) fun (i : Nat) => Go.Sx.dg ((Go.Sx.vn (8 : Nat) fun (i : Nat) => Go.Sx.dg x1 i) + Go.Sx.vn (8 : Nat) fun (i : Nat) => Go.Sx.dg x2 i) i) % x3 % Go.Sx.M256 = (x1 + x2) % x3 % Go.Sx.M256 ∧ True) ∧ ∀ (a : Option Go.Addr) (cap : Nat), (a = Option.none → (8 : Nat) = (0 : Nat) ∧ cap = (0 : Nat)) → (8 : Nat) ≤ cap → ∀ (a : Option Go.Addr) (cap : Nat), (a = Option.none → (8 : Nat) = (0 : Nat) ∧ cap = (0 : Nat)) → (8 : Nat) ≤ cap → (∀ (_ : Nat), True) ∧ (∀ (_ : Nat), True) ∧ (Go.Sx.dgs (8 : Nat) fun (i : Nat) => Go.Sx.intsC (Go.Sx.SC.val (Go.Value.int Go.IntKind.u64 (Go.Sx.dg x1 i)))) ∧ (8 : Nat) ≤ (1000 : Nat) ∧ (Go.Sx.dgs (8 : Nat) fun (i : Nat) => Go.Sx.intsC (Go.Sx.SC.val (Go.Value.int Go.IntKind.u64 (Go.Sx.dg x2 i)))) ∧ (8 : Nat) ≤ (1000 : Nat) ∧ ∀ (a : Option Go.Addr) (cap : Nat), (a = Option.none → (9 : Nat) = (0 : Nat) ∧ cap = (0 : Nat)) → (9 : Nat) ≤ cap → (∀ (_ : Nat), True) ∧ (Go.Sx.dgs (9 : Nat) fun (i : Nat) => Go.Sx.intsC (Go.Sx.SC.val (Go.Value.int Go.IntKind.u64 (Go.Sx.dg ((Go.Sx.vn (8 : Nat) fun (i : Nat) => Go.Sx.intsC (Go.Sx.SC.val (Go.Value.int Go.IntKind.u64 (Go.Sx.dg x1 i)))) + Go.Sx.vn (8 : Nat) fun (i : Nat) => Go.Sx.intsC (Go.Sx.SC.val (Go.Value.int Go.IntKind.u64 (Go.Sx.dg x2 i)))) i)))) ∧ (9 : Nat) ≤ (1000 : Nat) ∧ x3 ≠ (0 : Nat) ∧ (Go.Sx.vn (9 : Nat) fun (i : Nat) => Go.Sx.dg ((Go.Sx.vn (8 : Nat) fun (i : Nat) => Go.Sx.dg x1 i) + Go.Sx.vn (8 : Nat) fun (i : Nat) => Go.Sx.dg x2 i) i) % x3 % Go.Sx.M256 = (x1 + x2) % x3 % Go.Sx.M256 ∧ True) ∧ ∀ (a : Option Go.Addr) (cap : Nat), (a = Option.none → (8 : Nat) = (0 : Nat) ∧ cap = (0 : Nat)) → (8 : Nat) ≤ cap → ∀ (a : Option Go.Addr) (cap : Nat), (a = Option.none → (8 : Nat) = (0 : Nat) ∧ cap = (0 : Nat)) → (8 : Nat) ≤ cap → (∀ (_ : Nat), True) ∧ (∀ (_ : Nat), True) ∧ (Go.Sx.dgs (8 : Nat) fun (i : Nat) => Go.Sx.intsC (Go.Sx.SC.val (Go.Value.int Go.IntKind.u64 (Go.Sx.dg x1 i)))) ∧ (8 : Nat) ≤ (1000 : Nat) ∧ (Go.Sx.dgs (8 : Nat) fun (i : Nat) => Go.Sx.intsC (Go.Sx.SC.val (Go.Value.int Go.IntKind.u64 (Go.Sx.dg x2 i)))) ∧ (8 : Nat) ≤ (1000 : Nat) ∧ ∀ (a : Option Go.Addr) (cap : Nat), (a = Option.none → (9 : Nat) = (0 : Nat) ∧ cap = (0 : Nat)) → (9 : Nat) ≤ cap → (∀ (_ : Nat), True) ∧ (Go.Sx.dgs (9 : Nat) fun (i : Nat) => Go.Sx.intsC (Go.Sx.SC.val (Go.Value.int Go.IntKind.u64 (Go.Sx.dg ((Go.Sx.vn (8 : Nat) fun (i : Nat) => Go.Sx.intsC (Go.Sx.SC.val (Go.Value.int Go.IntKind.u64 (Go.Sx.dg x1 i)))) + Go.Sx.vn (8 : Nat) fun (i : Nat) => Go.Sx.intsC (Go.Sx.SC.val (Go.Value.int Go.IntKind.u64 (Go.Sx.dg x2 i)))) i)))) ∧ (9 : Nat) ≤ (1000 : Nat) ∧ x3 ≠ (0 : Nat) ∧ (Go.Sx.vn (9 : Nat) fun (i : Nat) => Go.Sx.dg ((Go.Sx.vn (8 : Nat) fun (i : Nat) => Go.Sx.dg x1 i) + Go.Sx.vn (8 : Nat) fun (i : Nat) => Go.Sx.dg x2 i) i) % x3 % Go.Sx.M256 = (x1 + x2) % x3 % Go.Sx.M256 ∧ True) := by kernel_rfl
-- END VC
-- VC vc_refOpp HASH 2fd1eaa10966e4e6
theorem vc_refOpp (a m : Nat) (r : Nat) :
    OwesV Try.prog .none slAll [] 4 Try.f60 [sU a, sU m] (.one (sU r)) =
    (let x1 : Nat := a % Go.Sx.M256; let x2 : Nat := r % Go.Sx.M256; let x3 : Nat := Go.Sx.vn (8 : Nat) fun (i : Nat) => Go.Sx.dg x1 i; let x4 : Nat := Go.Sx.vn (8 : Nat) fun (i : Nat) => Go.Sx.dg (m % Go.Sx.M256) i; (Go.Sx.conj [x1 == (0 : Nat)] = Bool.true → x1 = x2 ∧ True) ∧ (Go.Sx.conj [x1 == (0 : Nat)] = Bool.false → ((∀ (a : Option Go.Addr) (cap : Nat), (a = Option.none → (8 : Nat) = (0 : Nat) ∧ cap = (0 : Nat)) → (8 : Nat) ≤ cap → ∀ (a : Option Go.Addr) (cap : Nat), (a = Option.none → (8 : Nat) = (0 : Nat) ∧ cap = (0 : Nat)) → (8 : Nat) ≤ cap → (∀ (_ : Nat), True) ∧ (∀ (_ : Nat), True) ∧ (Go.Sx.dgs (8 : Nat) fun (i : Nat) => Go.Sx.intsC (Go.Sx.SC.val (Go.Value.int Go.IntKind.u64 (Go.Sx.dg (m % Go.Sx.M256) i)))) ∧ (8 : Nat) ≤ (1000 : Nat) ∧ (Go.Sx.dgs (8 : Nat) fun (i : Nat) => Go.Sx.intsC (Go.Sx.SC.val (Go.Value.int Go.IntKind.u64 (Go.Sx.dg x1 i)))) ∧ (8 : Nat) ≤ (1000 : Nat) ∧ x3 ≤ x4 ∧ ∀ (a : Option Go.Addr) (cap : Nat), (a = Option.none → (8 : Nat) = (0 : Nat) ∧ cap = (0 : Nat)) → (8 : Nat) ≤ cap → (∀ (_ : Nat), True) ∧ (Go.Sx.dgs (8 : Nat) fun (i : Nat) => Go.Sx.intsC (Go.Sx.SC.val (Go.Value.int Go.IntKind.u64 (Go.Sx.dg ((Go.Sx.vn (8 : Nat) fun (i : Nat) => Go.Sx.intsC (Go.Sx.SC.val (Go.Value.int Go.IntKind.u64 (Go.Sx.dg (m % Go.Sx.M256) i)))) - Go.Sx.vn (8 : Nat) fun (i : Nat) => Go.Sx.intsC (Go.Sx.SC.val (Go.Value.int Go.IntKind.u64 (Go.Sx.dg x1 i)))) i)))) ∧ (8 : Nat) ≤ (1000 : Nat) ∧ (Go.Sx.vn (8 : Nat) fun (i : Nat) => Go.Sx.dg (x4 - x3) i) % Go.Sx.M256 % Go.Sx.M256 = x2 ∧ True) ∧ ∀ (a : Option Go.Addr) (cap : Nat), (a = Option.none → (8 : Nat) = (0 : Nat) ∧ cap = (0 : Nat)) → (8 : Nat) ≤ cap → ∀ (a : Option Go.Addr) (cap : Nat), (a = Option.none → (8 : Nat) = (0 : Nat) ∧ cap = (0 : Nat)) → (8 : Nat) ≤ cap → (∀ (_ : Nat), True) ∧ (∀ (_ : Nat), True) ∧ (Go.Sx.dgs (8 : Nat) fun (i : Nat) => Go.Sx.intsC (Go.Sx.SC.val (Go.Value.int Go.IntKind.u64 (Go.Sx.dg (m % Go.Sx.M256) i)))) ∧ (8 : Nat) ≤ (1000 : Nat) ∧ (Go.Sx.dgs (8 : Nat) fun (i : Nat) => Go.Sx.intsC (Go.Sx.SC.val (Go.Value.int Go.IntKind.u64 (Go.Sx.dg x1 i)))) ∧ (8 : Nat) ≤ (1000 : Nat) ∧ x3 ≤ x4 ∧ ∀ (a : Option Go.Addr) (cap : Nat), (a = Option.none → (8 : Nat) = (0 : Nat) ∧ cap = (0 : Nat)) → (8 : Nat) ≤ cap → (∀ (_ : Nat), True) ∧ (Go.Sx.dgs (8 : Nat) fun (i : Nat) => Go.Sx.intsC (Go.Sx.SC.val (Go.Value.int Go.IntKind.u64 (Go.Sx.dg ((Go.Sx.vn (8 : Nat) fun (i : Nat) => Go.Sx.intsC (Go.Sx.SC.val (Go.Value.int Go.IntKind.u64 (Go.Sx.dg (m % Go.Sx.M256) i)))) - Go.Sx.vn (8 : Nat) fun (i : Nat) => Go.Sx.intsC (Go.Sx.SC.val (Go.Value.int Go.IntKind.u64 (Go.Sx.dg x1 i)))) i)))) ∧ (8 : Nat) ≤ (1000 : Nat) ∧ (Go.Sx.vn (8 : Nat) fun (i : Nat) => Go.Sx.dg (x4 - x3) i) % Go.Sx.M256 % Go.Sx.M256 = x2 ∧ True) ∧ ∀ (a : Option Go.Addr) (cap : Nat), (a = Option.none → (8 : Nat) = (0 : Nat) ∧ cap = (0 : Nat)) → (8 : Nat) ≤ cap → ∀ (a : Option Go.Addr) (cap : Nat), (a = Option.none → (8 : Nat) = (0 : Nat) ∧ cap = (0 : Nat)) → (8 : Nat) ≤ cap → (∀ (_ : Nat), True) ∧ (∀ (_ : Nat), True) ∧ (Go.Sx.dgs (8 : Nat) fun (i : Nat) => Go.Sx.intsC (Go.Sx.SC.val (Go.Value.int Go.IntKind.u64 (Go.Sx.dg (m % Go.Sx.M256) i)))) ∧ (8 : Nat) ≤ (1000 : Nat) ∧ (Go.Sx.dgs (8 : Nat) fun (i : Nat) => Go.Sx.intsC (Go.Sx.SC.val (Go.Value.int Go.IntKind.u64 (Go.Sx.dg x1 i)))) ∧ (8 : Nat) ≤ (1000 : Nat) ∧ x3 ≤ x4 ∧ ∀ (a : Option Go.Addr) (cap : Nat), (a = Option.none → (8 : Nat) = (0 : Nat) ∧ cap = (0 : Nat)) → (8 : Nat) ≤ cap → (∀ (_ : Nat), True) ∧ (Go.Sx.dgs (8 : Nat) fun (i : Nat) => Go.Sx.intsC (Go.Sx.SC.val (Go.Value.int Go.IntKind.u64 (Go.Sx.dg ((Go.Sx.vn (8 : Nat) fun (i : Nat) => Go.Sx.intsC (Go.Sx.SC.val (Go.Value.int Go.IntKind.u64 (Go.Sx.dg (m % Go.Sx.M256) i)))) - Go.Sx.vn (8 : Nat) fun (i : Nat) => Go.Sx.intsC (Go.Sx.SC.val (Go.Value.int Go.IntKind.u64 (Go.Sx.dg x1 i)))) i)))) ∧ (8 : Nat) ≤ (1000 : Nat) ∧ (Go.Sx.vn (8 : Nat) fun (i : Nat) => Go.Sx.dg (x4 - x3) i) % Go.Sx.M256 % Go.Sx.M256 = x2 ∧ True)) := by kernel_rfl
-- END VC
-- VC vc_refPro HASH e132123069220130
theorem vc_refPro (a b m : Nat) (r : Nat) :
    OwesV Try.prog .none slRest [] 4 Try.f61 [sU a, sU b, sU m] (.one (sU r)) =
    (let x1 : Bool := Go.IntKind.u64.wrap (↑(BitVec.ofInt (64 : Nat) (Go.IntKind.u64.wrap (↑(BitVec.ofInt (64 : Nat) (Go.Sx.limb m (1 : Nat)) ||| BitVec.ofInt (64 : Nat) (Go.Sx.limb m (2 : Nat))).toNat : Int)) ||| BitVec.ofInt (64 : Nat) (Go.Sx.limb m (3 : Nat))).toNat : Int) == (0 : Int); let x2 : Int := (Go.IntKind.u64.wrap (Go.Sx.limb a (0 : Nat) * Go.Sx.limb b (0 : Nat))).tmod (Go.Sx.limb m (0 : Nat)); let x3 : Nat := r % Go.Sx.M256; let x4 : Nat := m % Go.Sx.M256; (x1 = Bool.true → x1 = Bool.true) ∧ (x1 = Bool.true → x1 = Bool.true) ∧ (x1 = Bool.true → x1 = Bool.true) ∧ ((x1 && Decidable.decide (Go.Sx.limb m (0 : Nat) < (4294967296 : Int))) = Bool.true → Go.Sx.limb m (0 : Nat) ≠ (0 : Int) ∧ ((0 : Int) ≤ x2 ∧ x2 < (18446744073709551616 : Int)) ∧ ((0 : Int) ≤ (0 : Int) ∧ (0 : Int) < (18446744073709551616 : Int)) ∧ ((0 : Int) ≤ (0 : Int) ∧ (0 : Int) < (18446744073709551616 : Int)) ∧ ((0 : Int) ≤ (0 : Int) ∧ (0 : Int) < (18446744073709551616 : Int)) ∧ Go.Sx.join x2 (0 : Int) (0 : Int) (0 : Int) % Go.Sx.M256 = x3 ∧ True) ∧ ((x1 && Decidable.decide (Go.Sx.limb m (0 : Nat) < (4294967296 : Int))) = Bool.false → ((∀ (a_2 : Option Go.Addr) (cap : Nat), (a_2 = Option.none → (8 : Nat) = (0 : Nat) ∧ cap = (0 : Nat)) → (8 : Nat) ≤ cap → ((∀ (a_5 : Option Go.Addr) (cap : Nat), (a_5 = Option.none → (8 : Nat) = (0 : Nat) ∧ cap = (0 : Nat)) → (8 : Nat) ≤ cap → ((∀ (_ : Nat), True) ∧ (∀ (_ : Nat), True) ∧ (Go.Sx.dgs (8 : Nat) fun (i : Nat) => Go.Sx.intsC (Go.Sx.SC.val (Go.Value.int Go.IntKind.u64 (Go.Sx.dg (a % Go.Sx.M256) i)))) ∧ (8 : Nat) ≤ (1000 : Nat) ∧ (Go.Sx.dgs (8 : Nat) fun (i : Nat) => Go.Sx.intsC (Go.Sx.SC.val (Go.Value.int Go.IntKind.u64 (Go.Sx.dg (b % Go.Sx.M256) i)))) ∧ (8 : Nat) ≤ (1000 : Nat) ∧ ∀ (a_8 : Option Go.Addr) (cap : Nat), (a_8 = Option.none → (16 : Nat) = (0 : Nat) ∧ cap = (0 : Nat)) → (16 : Nat) ≤ cap → (∀ (_ : Nat), True) ∧ (Go.Sx.dgs (16 : Nat) fun (i : Nat) => Go.Sx.intsC (Go.Sx.SC.val (Go.Value.int Go.IntKind.u64 (Go.Sx.dg ((Go.Sx.vn (8 : Nat) fun (i : Nat) => Go.Sx.intsC (Go.Sx.SC.val (Go.Value.int Go.IntKind.u64 (Go.Sx.dg (a % Go.Sx.M256) i)))) * Go.Sx.vn (8 : Nat) fun (i : Nat) => Go.Sx.intsC (Go.Sx.SC.val (Go.Value.int Go.IntKind.u64 (Go.Sx.dg (b % Go.Sx.M256) i)))) i)))) ∧ (16 : Nat) ≤ (1000 : Nat) ∧ x4 ≠ (0 : Nat) ∧ (Go.Sx.vn (16 : Nat) fun (i : Nat) => Go.Sx.dg ((Go.Sx.vn (8 : Nat) fun (i : Nat) => Go.Sx.dg (a % Go.Sx.M256) i) * Go.Sx.vn (8 : Nat) fun (i : Nat) => Go.Sx.dg (b % Go.Sx.M256) i) i) % x4 % Go.Sx.M256 = x3 ∧ True) ∧ (∀ (_ : Nat), True) ∧ (∀ (_ : Nat), True) ∧ (Go.Sx.dgs (8 : Nat) fun (i : Nat) => Go.Sx.intsC (Go.Sx.SC.val (Go.Value.int Go.IntKind.u64 (Go.Sx.dg (a % Go.Sx.M256) i)))) ∧ (8 : Nat) ≤ (1000 : Nat) ∧ (Go.Sx.dgs (8 : Nat) fun (i : Nat) => Go.Sx.intsC (Go.Sx.SC.val (Go.Value.int Go.IntKind.u64 (Go.Sx.dg (b % Go.Sx.M256) i)))) ∧ (8 : Nat) ≤ (1000 : Nat) ∧ ∀ (a_8 : Option Go.Addr) (cap : Nat), (a_8 = Option.none → (16 : Nat) = (0 : Nat) ∧ cap = (0 : Nat)) → (16 : Nat) ≤ cap → (∀ (_ : Nat), True) ∧ (Go.Sx.dgs (16 : Nat) fun (i : Nat) => Go.Sx.intsC (Go.Sx.SC.val (Go.Value.int Go.IntKind.u64 (Go.Sx.dg ((Go.Sx.vn (8 : Nat) fun (i : Nat) => Go.Sx.intsC (Go.Sx.SC.val (Go.Value.int Go.IntKind.u64 (Go.Sx.dg (a % Go.Sx.M256) i)))) * Go.Sx.vn (8 : Nat) fun (i : Nat) => Go.Sx.intsC (Go.Sx.SC.val (Go.Value.int Go.IntKind.u64 (Go.Sx.dg (b % Go.Sx.M256) i)))) i)))) ∧ (16 : Nat) ≤ (1000 : Nat) ∧ x4 ≠ (0 : Nat) ∧ (Go.Sx.vn (16 : Nat) fun (i : Nat) => Go.Sx.dg ((Go.Sx.vn (8 : Nat) fun (i : Nat) => Go.Sx.dg (a % Go.Sx.M256) i) * Go.Sx.vn (8 : Nat) fun (i : Nat) => Go.Sx.dg (b % Go.Sx.M256) i) i) % x4 % Go.Sx.M256 = x3 ∧ True) ∧ ∀ (a_5 : Option Go.Addr) (cap : Nat), (a_5 = Option.none → (8 : Nat) = (0 : Nat) ∧ cap = (0 : Nat)) → (8 : Nat) ≤ cap → (∀ (_ : Nat), True) ∧ (∀ (_ : Nat), True) ∧ (Go.Sx.dgs (8 : Nat) fun (i : Nat) => Go.Sx.intsC (Go.Sx.SC.val (Go.Value.int Go.IntKind.u64 (Go.Sx.dg (a % Go.Sx.M256) i)))) ∧ (8 : Nat) ≤ (1000 : Nat) ∧ (Go.Sx.dgs (8 : Nat) fun (i : Nat) => Go.Sx.intsC (Go.Sx.SC.val (Go.Value.int Go.IntKind.u64 (Go.Sx.dg (b % Go.Sx.M256) i)))) ∧ (8 : Nat) ≤ (1000 : Nat) ∧ ∀ (a_8 : Option Go.Addr) (cap : Nat), (a_8 = Option.none → (16 : Nat) = (0 : Nat) ∧ cap = (0 : Nat)) → (16 : Nat) ≤ cap → (∀ (_ : Nat), True) ∧ (Go.Sx.dgs (16 : Nat) fun (i : Nat) => Go.Sx.intsC (Go.Sx.SC.val (Go.Value.int Go.IntKind.u64 (Go.Sx.dg ((Go.Sx.vn (8 : Nat) fun (i : Nat) => Go.Sx.intsC (Go.Sx.SC.val (Go.Value.int Go.IntKind.u64 (Go.Sx.dg (a % Go.Sx.M256) i)))) * Go.Sx.vn (8 : Nat) fun (i : Nat) => Go.Sx.intsC (Go.Sx.SC.val (Go.Value.int Go.IntKind.u64 (Go.Sx.dg (b % Go.Sx.M256) i)))) i)))) ∧ (16 : Nat) ≤ (1000 : Nat) ∧ x4 ≠ (0 : Nat) ∧ (Go.Sx.vn (16 : Nat) fun (i : Nat) => Go.Sx.dg ((Go.Sx.vn (8 : Nat) fun (i : Nat) => Go.Sx.dg (a % Go.Sx.M256) i) * Go.Sx.vn (8 : Nat) fun (i : Nat) => Go.Sx.dg (b % Go.Sx.M256) i) i) % x4 % Go.Sx.M256 = x3 ∧ True) ∧ ∀ (a_5 : Option Go.Addr) (cap : Nat), (a_5 = Option.none → (8 : Nat) = (0 : Nat) ∧ cap = (0 : Nat)) → (8 : Nat) ≤ cap → (∀ (_ : Nat), True) ∧ (∀ (_ : Nat), True) ∧ (Go.Sx.dgs (8 : Nat) fun (i : Nat) => Go.Sx.intsC (Go.Sx.SC.val (Go.Value.int Go.IntKind.u64 (Go.Sx.dg (a % Go.Sx.M256) i)))) ∧ (8 : Nat) ≤ (1000 : Nat) ∧ (Go.Sx.dgs (8 : Nat) fun (i : Nat) => Go.Sx.intsC (Go.Sx.SC.val (Go.Value.int Go.IntKind.u64 (Go.Sx.dg (b % Go.Sx.M256) i)))) ∧ (8 : Nat) ≤ (1000 : Nat) ∧ ∀ (a_8 : Option Go.Addr) (cap : Nat), (a_8 = Option.none → (16 : Nat) = (0 : Nat) ∧ cap = (0 : Nat)) → (16 : Nat) ≤ cap → (∀ (_ : Nat), True) ∧ (Go.Sx.dgs (16 : Nat) fun (i : Nat) => Go.Sx.intsC (Go.Sx.SC.val (Go.Value.int Go.IntKind.u64 (Go.Sx.dg ((Go.Sx.vn (8 : Nat) fun (i : Nat) => Go.Sx.intsC (Go.Sx.SC.val (Go.Value.int Go.IntKind.u64 (Go.Sx.dg (a % Go.Sx.M256) i)))) * Go.Sx.vn (8 : Nat) fun (i : Nat) => Go.Sx.intsC (Go.Sx.SC.val (Go.Value.int Go.IntKind.u64 (Go.Sx.dg (b % Go.Sx.M256) i)))) i)))) ∧ (16 : Nat) ≤ (1000 : Nat) ∧ x4 ≠ (0 : Nat) ∧ (Go.Sx.vn (16 : Nat) fun (i : Nat) => Go.Sx.dg ((Go.Sx.vn (8 : Nat) fun (i : Nat) => Go.Sx.dg (a % Go.Sx.M256) i) * Go.Sx.vn (8 : Nat) fun (i : Nat) => Go.Sx.dg (b % Go.Sx.M256) i) i) % x4 % Go.Sx.M256 = x3 ∧ True) ∧ ((∀ (a_2 : Option Go.Addr) (cap : Nat), (a_2 = Option.none → (8 : Nat) = (0 : Nat) ∧ cap = (0 : Nat)) → (8 : Nat) ≤ cap → (∀ (a_5 : Option Go.Addr) (cap : Nat), (a_5 = Option.none → (8 : Nat) = (0 : Nat) ∧ cap = (0 : Nat)) → (8 : Nat) ≤ cap → ((∀ (_ : Nat), True) ∧ (∀ (_ : Nat), True) ∧ (Go.Sx.dgs (8 : Nat) fun (i : Nat) => Go.Sx.intsC (Go.Sx.SC.val (Go.Value.int Go.IntKind.u64 (Go.Sx.dg (a % Go.Sx.M256) i)))) ∧ (8 : Nat) ≤ (1000 : Nat) ∧ (Go.Sx.dgs (8 : Nat) fun (i : Nat) => Go.Sx.intsC (Go.Sx.SC.val (Go.Value.int Go.IntKind.u64 (Go.Sx.dg (b % Go.Sx.M256) i)))) ∧ (8 : Nat) ≤ (1000 : Nat) ∧ ∀ (a_8 : Option Go.Addr) (cap : Nat), (a_8 = Option.none → (16 : Nat) = (0 : Nat) ∧ cap = (0 : Nat)) → (16 : Nat) ≤ cap → (∀ (_ : Nat), True) ∧ (Go.Sx.dgs (16 : Nat) fun (i : Nat) => Go.Sx.intsC (Go.Sx.SC.val (Go.Value.int Go.IntKind.u64 (Go.Sx.dg ((Go.Sx.vn (8 : Nat) fun (i : Nat) => Go.Sx.intsC (Go.Sx.SC.val (Go.Value.int Go.IntKind.u64 (Go.Sx.dg (a % Go.Sx.M256) i)))) * Go.Sx.vn (8 : Nat) fun (i : Nat) => Go.Sx.intsC (Go.Sx.SC.val (Go.Value.int Go.IntKind.u64 (Go.Sx.dg (b % Go.Sx.M256) i)))) i)))) ∧ (16 : Nat) ≤ (1000 : Nat) ∧ x4 ≠ (0 : Nat) ∧ (Go.Sx.vn (16 : Nat) fun (i : Nat) => Go.Sx.dg ((Go.Sx.vn (8 : Nat) fun (i : Nat) => Go.Sx.dg (a % Go.Sx.M256) i) * Go.Sx.vn (8 : Nat) fun (i : Nat) => Go.Sx.dg (b % Go.Sx.M256) i) i) % x4 % Go.Sx.M256 = x3 ∧ True) ∧ (∀ (_ : Nat), True) ∧ (∀ (_ : Nat), True) ∧ (Go.Sx.dgs (8 : Nat) fun (i : Nat) => Go.Sx.intsC (Go.Sx.SC.val (Go.Value.int Go.IntKind.u64 (Go.Sx.dg (a % Go.Sx.M256) i)))) ∧ (8 : Nat) ≤ (1000 : Nat) ∧ (Go.Sx.dgs (8 : Nat) fun (i : Nat) => Go.Sx.intsC (Go.Sx.SC.val (Go.Value.int Go.IntKind.u64 (Go.Sx.dg (b % Go.Sx.M256) i)))) ∧ (8 : Nat) ≤ (1000 : Nat) ∧ ∀ (a_8 : Option Go.Addr) (cap : Nat), (a_8 = Option.none → (16 : Nat) = (0 : Nat) ∧ cap = (0 : Nat)) → (16 : Nat) ≤ cap → (∀ (_ : Nat), True) ∧ (Go.Sx.dgs (16 : Nat) fun (i : Nat) => Go.Sx.intsC (Go.Sx.SC.val (Go.Value.int Go.IntKind.u64 (Go.Sx.dg ((Go.Sx.vn (8 : Nat) fun (i : Nat) => Go.Sx.intsC (Go.Sx.SC.val (Go.Value.int Go.IntKind.u64 (Go.Sx.dg (a % Go.Sx.M256) i)))) * Go.Sx.vn (8 : Nat) fun (i : Nat) => Go.Sx.intsC (Go.Sx.SC.val (Go.Value.int Go.IntKind.u64 (Go.Sx.dg (b % Go.Sx.M256) i)))) i)))) ∧ (16 : Nat) ≤ (1000 : Nat) ∧ x4 ≠ (0 : Nat) ∧ (Go.Sx.vn (16 : Nat) fun (i : Nat) => Go.Sx.dg ((Go.Sx.vn (8 : Nat) fun (i : Nat) => Go.Sx.dg (a % Go.Sx.M256) i) * Go.Sx.vn (8 : Nat) fun (i : Nat) => Go.Sx.dg (b % Go.Sx.M256) i) i) % x4 % Go.Sx.M256 = x3 ∧ True) ∧ ∀ (a_5 : Option Go.Addr) (cap : Nat), (a_5 = Option.none → (8 : Nat) = (0 : Nat) ∧ cap = (0 : Nat)) → (8 : Nat) ≤ cap → (∀ (_ : Nat), True) ∧ (∀ (_ : Nat), True) ∧ (Go.Sx.dgs (8 : Nat) fun (i : Nat) => Go.Sx.intsC (Go.Sx.SC.val (Go.Value.int Go.IntKind.u64 (Go.Sx.dg (a % Go.Sx.M256) i)))) ∧ (8 : Nat) ≤ (1000 : Nat) ∧ (Go.Sx.dgs (8 : Nat) fun (i : Nat) => Go.Sx.intsC (Go.Sx.SC.val (Go.Value.int Go.IntKind.u64 (Go.Sx.dg (b % Go.Sx.M256) i)))) ∧ (8 : Nat) ≤ (1000 : Nat) ∧ ∀ (a_8 : Option Go.Addr) (cap : Nat), (a_8 = Option.none → (16 : Nat) = (0 : Nat) ∧ cap = (0 : Nat)) → (16 : Nat) ≤ cap → (∀ (_ : Nat), True) ∧ (Go.Sx.dgs (16 : Nat) fun (i : Nat) => Go.Sx.intsC (Go.Sx.SC.val (Go.Value.int Go.IntKind.u64 (Go.Sx.dg ((Go.Sx.vn (8 : Nat) fun (i : Nat) => Go.Sx.intsC (Go.Sx.SC.val (Go.Value.int Go.IntKind.u64 (Go.Sx.dg (a % Go.Sx.M256) i)))) * Go.Sx.vn (8 : Nat) fun (i : Nat) => Go.Sx.intsC (Go.Sx.SC.val (Go.Value.int Go.IntKind.u64 (Go.Sx.dg (b % Go.Sx.M256) i)))) i)))) ∧ (16 : Nat) ≤ (1000 : Nat) ∧ x4 ≠ (0 : Nat) ∧ (Go.Sx.vn (16 : Nat) fun (i : Nat) => Go.Sx.dg ((Go.Sx.vn (8 : Nat) fun (i : Nat) => Go.Sx.dg (a % Go.Sx.M256) i) * Go.Sx.vn (8 : Nat) fun (i : Nat) => Go.Sx.dg (b % Go.Sx.M256) i) i) % x4 % Go.Sx.M256 = x3 ∧ True) ∧ ∀ (a_2 : Option Go.Addr) (cap : Nat), (a_2 = Option.none → (8 : Nat) = (0 : Nat) ∧ cap = (0 : Nat)) → (8 : Nat) ≤ cap → ∀ (a_5 : Option Go.Addr) (cap : Nat), (a_5 = Option.none → (8 : Nat) = (0 : Nat) ∧ cap = (0 : Nat)) → (8 : Nat) ≤ cap → (∀ (_ : Nat), True) ∧ (∀ (_ : Nat), True) ∧ (Go.Sx.dgs (8 : Nat) fun (i : Nat) => Go.Sx.intsC (Go.Sx.SC.val (Go.Value.int Go.IntKind.u64 (Go.Sx.dg (a % Go.Sx.M256) i)))) ∧ (8 : Nat) ≤ (1000 : Nat) ∧ (Go.Sx.dgs (8 : Nat) fun (i : Nat) => Go.Sx.intsC (Go.Sx.SC.val (Go.Value.int Go.IntKind.u64 (Go.Sx.dg (b % Go.Sx.M256) i)))) ∧ (8 : Nat) ≤ (1000 : Nat) ∧ ∀ (a_8 : Option Go.Addr) (cap : Nat), (a_8 = Option.none → (16 : Nat) = (0 : Nat) ∧ cap = (0 : Nat)) → (16 : Nat) ≤ cap → (∀ (_ : Nat), True) ∧ (Go.Sx.dgs (16 : Nat) fun (i : Nat) => Go.Sx.intsC (Go.Sx.SC.val (Go.Value.int Go.IntKind.u64 (Go.Sx.dg ((Go.Sx.vn (8 : Nat) fun (i : Nat) => Go.Sx.intsC (Go.Sx.SC.val (Go.Value.int Go.IntKind.u64 (Go.Sx.dg (a % Go.Sx.M256) i)))) * Go.Sx.vn (8 : Nat) fun (i : Nat) => Go.Sx.intsC (Go.Sx.SC.val (Go.Value.int Go.IntKind.u64 (Go.Sx.dg (b % Go.Sx.M256) i)))) i)))) ∧ (16 : Nat) ≤ (1000 : Nat) ∧ x4 ≠ (0 : Nat) ∧ (Go.Sx.vn (16 : Nat) fun (i : Nat) => Go.Sx.dg ((Go.Sx.vn (8 : Nat) fun (i : Nat) => Go.Sx.dg (a % Go.Sx.M256) i) * Go.Sx.vn (8 : Nat) fun (i : Nat) => Go.Sx.dg (b % Go.Sx.M256) i) i) % x4 % Go.Sx.M256 = x3 ∧ True) ∧ (∀ (a_2 : Option Go.Addr) (cap : Nat), (a_2 = Option.none → (8 : Nat) = (0 : Nat) ∧ cap = (0 : Nat)) → (8 : Nat) ≤ cap → ∀ (a_5 : Option Go.Addr) (cap : Nat), (a_5 = Option.none → (8 : Nat) = (0 : Nat) ∧ cap = (0 : Nat)) → (8 : Nat) ≤ cap → (∀ (_ : Nat), True) ∧ (∀ (_ : Nat), True) ∧ (Go.Sx.dgs (8 : Nat) fun (i : Nat) => Go.Sx.intsC (Go.Sx.SC.val (Go.Value.int Go.IntKind.u64 (Go.Sx.dg (a % Go.Sx.M256) i)))) ∧ (8 : Nat) ≤ (1000 : Nat) ∧ (Go.Sx.dgs (8 : Nat) fun (i : Nat) => Go.Sx.intsC (Go.Sx.SC.val (Go.Value.int Go.IntKind.u64 (Go.Sx.dg (b % Go.Sx.M256) i)))) ∧ (8 : Nat) ≤ (1000 : Nat) ∧ ∀ (a_8 : Option Go.Addr) (cap : Nat), (a_8 = Option.none → (16 : Nat) = (0 : Nat) ∧ cap = (0 : Nat)) → (16 : Nat) ≤ cap → (∀ (_ : Nat), True) ∧ (Go.Sx.dgs (16 : Nat) fun (i : Nat) => Go.Sx.intsC (Go.Sx.SC.val (Go.Value.int Go.IntKind.u64 (Go.Sx.dg ((Go.Sx.vn (8 : Nat) fun (i : Nat) => Go.Sx.intsC (Go.Sx.SC.val (Go.Value.int Go.IntKind.u64 (Go.Sx.dg (a % Go.Sx.M256) i)))) * Go.Sx.vn (8 : Nat) fun (i : Nat) => Go.Sx.intsC (Go.Sx.SC.val (Go.Value.int Go.IntKind.u64 (Go.Sx.dg (b % Go.Sx.M256) i)))) i)))) ∧ (16 : Nat) ≤ (1000 : Nat) ∧ x4 ≠ (0 : Nat) ∧ (Go.Sx.vn (16 : Nat) fun (i : Nat) => Go.Sx.dg ((Go.Sx.vn (8 : Nat) fun (i : Nat) => Go.Sx.dg (a % Go.Sx.M256) i) * Go.Sx.vn (8 : Nat) fun (i : Nat) => Go.Sx.dg (b % Go.Sx.M256) i) i) % x4 % Go.Sx.M256 = x3 ∧ True) ∧ ∀ (a_2 : Option Go.Addr) (cap : Nat), (a_2 = Option.none → (8 : Nat) = (0 : Nat) ∧ cap = (0 : Nat)) → (8 : Nat) ≤ cap → ∀ (a_5 : Option Go.Addr) (cap : Nat), (a_5 = Option.none → (8 : Nat) = (0 : Nat) ∧ cap = (0 : Nat)) → (8 : Nat) ≤ cap → (∀ (_ : Nat), True) ∧ (∀ (_ : Nat), True) ∧ (Go.Sx.dgs (8 : Nat) fun (i : Nat) => Go.Sx.intsC (Go.Sx.SC.val (Go.Value.int Go.IntKind.u64 (Go.Sx.dg (a % Go.Sx.M256) i)))) ∧ (8 : Nat) ≤ (1000 : Nat) ∧ (Go.Sx.dgs (8 : Nat) fun (i : Nat) => Go.Sx.intsC (Go.Sx.SC.val (Go.Value.int Go.IntKind.u64 (Go.Sx.dg (b % Go.Sx.M256) i)))) ∧ (8 : Nat) ≤ (1000 : Nat) ∧ ∀ (a_8 : Option Go.Addr) (cap : Nat), (a_8 = Option.none → (16 : Nat) = (0 : Nat) ∧ cap = (0 : Nat)) → (16 : Nat) ≤ cap → (∀ (_ : Nat), True) ∧ (Go.Sx.dgs (16 : Nat) fun (i : Nat) => Go.Sx.intsC (Go.Sx.SC.val (Go.Value.int Go.IntKind.u64 (Go.Sx.dg ((Go.Sx.vn (8 : Nat) fun (i : Nat) => Go.Sx.intsC (Go.Sx.SC.val (Go.Value.int Go.IntKind.u64 (Go.Sx.dg (a % Go.Sx.M256) i)))) * Go.Sx.vn (8 : Nat) fun (i : Nat) => Go.Sx.intsC (Go.Sx.SC.val (Go.Value.int Go.IntKind.u64 (Go.Sx.dg (b % Go.Sx.M256) i)))) i)))) ∧ (16 : Nat) ≤ (1000 : Nat) ∧ x4 ≠ (0 : Nat) ∧ (Go.Sx.vn (16 : Nat) fun (i : Nat) => Go.Sx.dg ((Go.Sx.vn (8 : Nat) fun (i : Nat) => Go.Sx.dg (a % Go.Sx.M256) i) * Go.Sx.vn (8 : Nat) fun (i : Nat) => Go.Sx.dg (b % Go.Sx.M256) i) i) % x4 % Go.Sx.M256 = x3 ∧ True) ∧ (((∀ (a_2 : Option Go.Addr) (cap : Nat), (a_2 = Option.none → (8 : Nat) = (0 : Nat) ∧ cap = (0 : Nat)) → (8 : Nat) ≤ cap → (∀ (a_5 : Option Go.Addr) (cap : Nat), (a_5 = Option.none → (8 : Nat) = (0 : Nat) ∧ cap = (0 : Nat)) → (8 : Nat) ≤ cap → ((∀ (_ : Nat), True) ∧ (∀ (_ : Nat), True) ∧ (Go.Sx.dgs (8 : Nat) fun (i : Nat) => Go.Sx.intsC (Go.Sx.SC.val (Go.Value.int Go.IntKind.u64 (Go.Sx.dg (a % Go.Sx.M256) i)))) ∧ (8 : Nat) ≤ (1000 : Nat) ∧ (Go.Sx.dgs (8 : Nat) fun (i : Nat) => Go.Sx.intsC (Go.Sx.SC.val (Go.Value.int Go.IntKind.u64 (Go.Sx.dg (b % Go.Sx.M256) i)))) ∧ (8 : Nat) ≤ (1000 : Nat) ∧ ∀ (a_8 : Option Go.Addr) (cap : Nat), (a_8 = Option.none → (16 : Nat) = (0 : Nat) ∧ cap = (0 : Nat)) → (16 : Nat) ≤ cap → (∀ (_ : Nat), True) ∧ (Go.Sx.dgs (16 : Nat) fun (i : Nat) => Go.Sx.intsC (Go.Sx.SC.val (Go.Value.int Go.IntKind.u64 (Go.Sx.dg ((Go.Sx.vn (8 : Nat) fun (i : Nat) => Go.Sx.intsC (Go.Sx.SC.val (Go.Value.int Go.IntKind.u64 (Go.Sx.dg (a % Go.Sx.M256) i)))) * Go.Sx.vn (8 : Nat) fun (i : Nat) => Go.Sx.intsC (Go.Sx.SC.val (Go.Value.int Go.IntKind.u64 (Go.Sx.dg (b % Go.Sx.M256) i)))) i)))) ∧ (16 : Nat) ≤ (1000 : Nat) ∧ x4 ≠ (0 : Nat) ∧ (Go.Sx.vn (16 : Nat) fun (i : Nat) => Go.Sx.dg ((Go.Sx.vn (8 : Nat) fun (i : Nat) => Go.Sx.dg (a % Go.Sx.M256) i) * Go.Sx.vn (8 : Nat) fun (i : Nat) => Go.Sx.dg (b % Go.Sx.M256) i) i) % x4 % Go.Sx.M256 = x3 ∧ True) ∧ (∀ (_ : Nat), True) ∧ (∀ (_ : Nat), True) ∧ (Go.Sx.dgs (8 : Nat) fun (i : Nat) => Go.Sx.intsC (Go.Sx.SC.val (Go.Value.int Go.IntKind.u64 (Go.Sx.dg (a % Go.Sx.M256) i)))) ∧ (8 : Nat) ≤ (1000 : Nat) ∧ (Go.Sx.dgs (8 : Nat) fun (i : Nat) => Go.Sx.intsC (Go.Sx.SC.val (Go.Value.int Go.IntKind.u64 (Go.Sx.dg (b % Go.Sx.M256) i)))) ∧ (8 : Nat) ≤ (1000 : Nat) ∧ ∀ (a_8 : Option Go.Addr) (cap : Nat), (a_8 = Option.none → (16 : Nat) = (0 : Nat) ∧ cap = (0 : Nat)) → (16 : Nat) ≤ cap → (∀ (_ : Nat), True) ∧ (Go.Sx.dgs (16 : Nat) fun (i : Nat) => Go.Sx.intsC (Go.Sx.SC.val (Go.Value.int Go.IntKind.u64 (Go.Sx.dg ((Go.Sx.vn (8 : Nat) fun (i : Nat) => Go.Sx.intsC (Go.Sx.SC.val (Go.Value.int Go.IntKind.u64 (Go.Sx.dg (a % Go.Sx.M256) i)))) * Go.Sx.vn (8 : Nat) fun (i : Nat) => Go.Sx.intsC (Go.Sx.SC.val (Go.Value.int Go.IntKind.u64 (Go.Sx.dg (b % Go.Sx.M256) i)))) i)))) ∧ (16 : Nat) ≤ (1000 : Nat) ∧ x4 ≠ (0 : Nat) ∧ (Go.Sx.vn (16 : Nat) fun (i : Nat) => Go.Sx.dg ((Go.Sx.vn (8 : Nat) fun (i : Nat) => Go.Sx.dg (a % Go.Sx.M256) i) * Go.Sx.vn (8 : Nat) fun (i : Nat) => Go.Sx.dg (b % Go.Sx.M256) i) i) % x4 % Go.Sx.M256 = x3 ∧ True) ∧ ∀ (a_5 : Option Go.Addr) (cap : Nat), (a_5 = Option.none → (8 : Nat) = (0 : Nat) ∧ cap = (0 : Nat)) → (8 : Nat) ≤ cap → (∀ (_ : Nat), True) ∧ (∀ (_ : Nat), True) ∧ (Go.Sx.dgs (8 : Nat) fun (i : Nat) => Go.Sx.intsC (Go.Sx.SC.val (Go.Value.int Go.IntKind.u64 (Go.Sx.dg (a % Go.Sx.M256) i)))) ∧ (8 : Nat) ≤ (1000 : Nat) ∧ (Go.Sx.dgs (8 : Nat) fun (i : Nat) => Go.Sx.intsC (Go.Sx.SC.val (Go.Value.int Go.IntKind.u64 (Go.Sx.dg (b % Go.Sx.M256) i)))) ∧ (8 : Nat) ≤ (1000 : Nat) ∧ ∀ (a_8 : Option Go.Addr) (cap : Nat), (a_8 = Option.none → (16 : Nat) = (0 : Nat) ∧ cap = (0 : Nat)) → (16 : Nat) ≤ cap → (∀ (_ : Nat), True) ∧ (Go.Sx.dgs (16 : Nat) fun (i : Nat) => Go.Sx.intsC (Go.Sx.SC.val (Go.Value.int Go.IntKind.u64 (Go.Sx.dg ((Go.Sx.vn (8 : Nat) fun (i : Nat) => Go.Sx.intsC (Go.Sx.SC.val (Go.Value.int Go.IntKind.u64 (Go.Sx.dg (a % Go.Sx.M256) i)))) * Go.Sx.vn (8 : Nat) fun (i : Nat) => Go.Sx.intsC (Go.Sx.SC.val (Go.Value.int Go.IntKind.u64 (Go.Sx.dg (b % Go.Sx.M256) i)))) i)))) ∧ (16 : Nat) ≤ (1000 : Nat) ∧ x4 ≠ (0 : Nat) ∧ (Go.Sx.vn (16 : Nat) fun (i : Nat) => Go.Sx.dg ((Go.Sx.vn (8 : Nat) fun (i : Nat) => Go.Sx.dg (a % Go.Sx.M256) i) * Go.Sx.vn (8 : Nat) fun (i : Nat) => Go.Sx.dg (b % Go.Sx.M256) i) i) % x4 % Go.Sx.M256 = x3 ∧ True) ∧ ∀ (a_2 : Option Go.Addr) (cap : Nat), (a_2 = Option.none → (8 : Nat) = (0 : Nat) ∧ cap = (0 : Nat)) → (8 : Nat) ≤ cap → ∀ (a_5 : Option Go.Addr) (cap : Nat), (a_5 = Option.none → (8 : Nat) = (0 : Nat) ∧ cap = (0 : Nat)) → (8 : Nat) ≤ cap → (∀ (_ : Nat), True) ∧ (∀ (_ : Nat), True) ∧ (Go.Sx.dgs (8 : Nat) fun (i : Nat) => Go.Sx.intsC (Go.Sx.SC.val (Go.Value.int Go.IntKind.u64 (Go.Sx.dg (a % Go.Sx.M256) i)))) ∧ (8 : Nat) ≤ (1000 : Nat) ∧ (Go.Sx.dgs (8 : Nat) fun (i : Nat) => Go.Sx.intsC (Go.Sx.SC.val (Go.Value.int Go.IntKind.u64 (Go.Sx.dg (b % Go.Sx.M256) i)))) ∧ (8 : Nat) ≤ (1000 : Nat) ∧ ∀ (a_8 : Option Go.Addr) (cap : Nat), (a_8 = Option.none → (16 : Nat) = (0 : Nat) ∧ cap = (0 : Nat)) → (16 : Nat) ≤ cap → (∀ (_ : Nat), True) ∧ (Go.Sx.dgs (16 : Nat) fun (i : Nat) => Go.Sx.intsC (Go.Sx.SC.val (Go.Value.int Go.IntKind.u64 (Go.Sx.dg ((Go.Sx.vn (8 : Nat) fun (i : Nat) => Go.Sx.intsC (Go.Sx.SC.val (Go.Value.int Go.IntKind.u64 (Go.Sx.dg (a % Go.Sx.M256) i)))) * Go.Sx.vn (8 : Nat) fun (i : Nat) => Go.Sx.intsC (Go.Sx.SC.val (Go.Value.int Go.IntKind.u64 (Go.Sx.dg (b % Go.Sx.M256) i)))) i)))) ∧ (16 : Nat) ≤ (1000 : Nat) ∧ x4 ≠ (0 : Nat) ∧ (Go.Sx.vn (16 : Nat) fun (i : Nat) => Go.Sx.dg ((Go.Sx.vn (8 : Nat) fun (i : Nat) => Go.Sx.dg (a % Go.Sx.M256) i) * Go.Sx.vn (8 : Nat) fun (i : Nat) => Go.Sx.dg (b % Go.Sx.M256) i) i) % x4 % Go.Sx.M256 = x3 ∧ True) ∧ ∀ (a_2 : Option Go.Addr) (cap : Nat), (a_2 = Option.none → (8 : Nat) = (0 : Nat) ∧ cap = (0 : Nat)) → (8 : Nat) ≤ cap → ∀ (a_5 : Option Go.Addr) (cap : Nat), (a_5 = Option.none → (8 : Nat) = (0 : Nat) ∧ cap = (0 : Nat)) → (8 : Nat) ≤ cap → (∀ (_ : Nat), True) ∧ (∀ (_ : Nat), True) ∧ (Go.Sx.dgs (8 : Nat) fun (i : Nat) => Go.Sx.intsC (Go.Sx.SC.val (Go.Value.int Go.IntKind.u64 (Go.Sx.dg (a % Go.Sx.M256) i)))) ∧ (8 : Nat) ≤ (1000 : Nat) ∧ (Go.Sx.dgs (8 : Nat) fun (i : Nat) => Go.Sx.intsC (Go.Sx.SC.val (Go.Value.int Go.IntKind.u64 (Go.Sx.dg (b % Go.Sx.M256) i)))) ∧ (8 : Nat) ≤ (1000 : Nat) ∧ ∀ (a_8 : Option Go.Addr) (cap : Nat), (a_8 = Option.none → (16 : Nat) = (0 : Nat) ∧ cap = (0 : Nat)) → (16 : Nat) ≤ cap → (∀ (_ : Nat), True) ∧ (Go.Sx.dgs (16 : Nat) fun (i : Nat) => Go.Sx.intsC (Go.Sx.SC.val (Go.Value.int Go.IntKind.u64 (Go.Sx.dg ((Go.Sx.vn (8 : Nat) fun (i : Nat) => Go.Sx.intsC (Go.Sx.SC.val (Go.Value.int Go.IntKind.u64 (Go.Sx.dg (a % Go.Sx.M256) i)))) * Go.Sx.vn (8 : Nat) fun (i : Nat) => Go.Sx.intsC (Go.Sx.SC.val (Go.Value.int Go.IntKind.u64 (Go.Sx.dg (b % Go.Sx.M256) i)))) i)))) ∧ (16 : Nat) ≤ (1000 : Nat) ∧ x4 ≠ (0 : Nat) ∧ (Go.Sx.vn (16 : Nat) fun (i : Nat) => Go.Sx.dg ((Go.Sx.vn (8 : Nat) fun (i : Nat) => Go.Sx.dg (a % Go.Sx.M256) i) * Go.Sx.vn (8 : Nat) fun (i : Nat) => Go.Sx.dg (b % Go.Sx.M256) i) i) % x4 % Go.Sx.M256 = x3 ∧ True) ∧ ((∀ (a_2 : Option Go.Addr) (cap : Nat), (a_2 = Option.none → (8 : Nat) = (0 : Nat) ∧ cap = (0 : Nat)) → (8 : Nat) ≤ cap → ∀ (a_5 : Option Go.Addr) (cap : Nat), (a_5 = Option.none → (8 : Nat) = (0 : Nat) ∧ cap = (0 : Nat)) → (8 : Nat) ≤ cap → (∀ (_ : Nat), True) ∧ (∀ (_ : Nat), True) ∧ (Go.Sx.dgs (8 : Nat) fun (i : Nat) => Go.Sx.intsC (Go.Sx.SC.val (Go.Value.int Go.IntKind.u64 (Go.Sx.dg (a % Go.Sx.M256) i)))) ∧ (8 : Nat) ≤ (1000 : Nat) ∧ (Go.Sx.dgs (8 : Nat) fun (i : Nat) => Go.Sx.intsC (Go.Sx.SC.val (Go.Value.int Go.IntKind.u64 (Go.Sx.dg (b % Go.Sx.M256) i)))) ∧ (8 : Nat) ≤ (1000 : Nat) ∧ ∀ (a_8 : Option Go.Addr) (cap : Nat), (a_8 = Option.none → (16 : Nat) = (0 : Nat) ∧ cap = (0 : Nat)) → (16 : Nat) ≤ cap → (∀ (_ : Nat), True) ∧ (Go.Sx.dgs (16 : Nat) fun (i : Nat) => Go.Sx.intsC (Go.Sx.SC.val (Go.Value.int Go.IntKind.u64 (Go.Sx.dg ((Go.Sx.vn (8 : Nat) fun (i : Nat) => Go.Sx.intsC (Go.Sx.SC.val (Go.Value.int Go.IntKind.u64 (Go.Sx.dg (a % Go.Sx.M256) i)))) * Go.Sx.vn (8 : Nat) fun (i : Nat) => Go.Sx.intsC (Go.Sx.SC.val (Go.Value.int Go.IntKind.u64 (Go.Sx.dg (b % Go.Sx.M256) i)))) i)))) ∧ (16 : Nat) ≤ (1000 : Nat) ∧ x4 ≠ (0 : Nat) ∧ (Go.Sx.vn (16 : Nat) fun (i : Nat) => Go.Sx.dg ((Go.Sx.vn (8 : Nat) fun (i : Nat) => Go.Sx.dg (a % Go.Sx.M256) i) * Go.Sx.vn (8 : Nat) fun (i : Nat) => Go.Sx.dg (b % Go.Sx.M256) i) i) % x4 % Go.Sx.M256 = x3 ∧ True) ∧ ∀ (a_2 : Option Go.Addr) (cap : Nat), (a_2 = Option.none → (8 : Nat) = (0 : Nat) ∧ cap = (0 : Nat)) → (8 : Nat) ≤ cap → ∀ (a_5 : Option Go.Addr) (cap : Nat), (a_5 = Option.none → (8 : Nat) = (0 : Nat) ∧ cap = (0 : Nat)) → (8 : Nat) ≤ cap → (∀ (_ : Nat), True) ∧ (∀ (_ : Nat), True) ∧ (Go.Sx.dgs (8 : Nat) fun (i : Nat) => Go.Sx.intsC (Go.Sx.SC.val (Go.Value.int Go.IntKind.u64 (Go.Sx.dg (a % Go.Sx.M256) i)))) ∧ (8 : Nat) ≤ (1000 : Nat) ∧ (Go.Sx.dgs (8 : Nat) fun (i : Nat) => Go.Sx.intsC (Go.Sx.SC.val (Go.Value.int Go.IntKind.u64 (Go.Sx.dg (b % Go.Sx.M256) i)))) ∧ (8 : Nat) ≤ (1000 : Nat) ∧ ∀ (a_8 : Option Go.Addr) (cap : Nat), (a_8 = Option.none → (16 : Nat) = (0 : Nat) ∧ cap = (0 : Nat)) → (16 : Nat) ≤ cap → (∀ (_ : Nat), True) ∧ (Go.Sx.dgs (16 : Nat) fun (i : Nat) => Go.Sx.intsC (Go.Sx.SC.val (Go.Value.int Go.IntKind.u64 (Go.Sx.dg ((Go.Sx.vn (8 : Nat) fun (i : Nat) => Go.Sx.intsC (Go.Sx.SC.val (Go.Value.int Go.IntKind.u64 (Go.Sx.dg (a % Go.Sx.M256) i)))) * Go.Sx.vn (8 : Nat) fun (i : Nat) => Go.Sx.intsC (Go.Sx.SC.val (Go.Value.int Go.IntKind.u64 (Go.Sx.dg (b % Go.Sx.M256) i)))) i)))) ∧ (16 : Nat) ≤ (1000 : Nat) ∧ x4 ≠ (0 : Nat) ∧ (Go.Sx.vn (16 : Nat) fun (i : Nat) => Go.Sx.dg ((Go.Sx.vn (8 : Nat) fun (i : Nat) => Go.Sx.dg (a % Go.Sx.M256) i) * Go.Sx.vn (8 : Nat) fun (i : Nat) => Go.Sx.dg (b % Go.Sx.M256) i) i) % x4 % Go.Sx.M256 = x3 ∧ True) ∧ ∀ (a_2 : Option Go.Addr) (cap : Nat), (a_2 = Option.none → (8 : Nat) = (0 : Nat) ∧ cap = (0 : Nat)) → (8 : Nat) ≤ cap → ∀ (a_5 : Option Go.Addr) (cap : Nat), (a_5 = Option.none → (8 : Nat) = (0 : Nat) ∧ cap = (0 : Nat)) → (8 : Nat) ≤ cap → (∀ (_ : Nat), True) ∧ (∀ (_ : Nat), True) ∧ (Go.Sx.dgs (8 : Nat) fun (i : Nat) => Go.Sx.intsC (Go.Sx.SC.val (Go.Value.int Go.IntKind.u64 (Go.Sx.dg (a % Go.Sx.M256) i)))) ∧ (8 : Nat) ≤ (1000 : Nat) ∧ (Go.Sx.dgs (8 : Nat) fun (i : Nat) => Go.Sx.intsC (Go.Sx.SC.val (Go.Value.int Go.IntKind.u64 (Go.Sx.dg (b % Go.Sx.M256) i)))) ∧ (8 : Nat) ≤ (1000 : Nat) ∧ ∀ (a_8 : Option Go.Addr) (cap : Nat), (a_8 = Option.none → (16 : Nat) = (0 : Nat) ∧ cap = (0 : Nat)) → (16 : Nat) ≤ cap → (∀ (_ : Nat), True) ∧ (Go.Sx.dgs (16 : Nat) fun (i : Nat) => Go.Sx.intsC (Go.Sx.SC.val (Go.Value.int Go.IntKind.u64 (Go.Sx.dg ((Go.Sx.vn (8 : Nat) fun (i : Nat) => Go.Sx.intsC (Go.Sx.SC.val (Go.Value.int Go.IntKind.u64 (Go.Sx.dg (a % Go.Sx.M256) i)))) * Go.Sx.vn (8 : Nat) fun (i : Nat) => Go.Sx.intsC (Go.Sx.SC.val (Go.Value.int Go.IntKind.u64 (Go.Sx.dg (b % Go.Sx.M256) i)))) i)))) ∧ (16 : Nat) ≤ (1000 : Nat) ∧ x4 ≠ (0 : Nat) ∧ (Go.Sx.vn (16 : Nat) fun (i : Nat) => Go.Sx.dg ((Go.Sx.vn (8 : Nat) fun (i : Nat) => Go.Sx.dg (a % Go.Sx.M256) i) * Go.Sx.vn (8 : Nat) fun (i : Nat) => Go.Sx.dg (b % Go.Sx.M256) i) i) % x4 % Go.Sx.M256 = x3 ∧ True)) := by kernel_rfl
-- END VC
-- VC vc_refMod HASH 9d1f8bc5a0d96e0c
theorem vc_refMod (i : Int) (a b m : Nat) (r : Nat) (e : Int) :
    OwesV Try.prog cxMod [] [] 4 Try.f31 [sI .i64 i, sU a, sU b, sU m] (.tup [sU r, sI .i64 e]) =
    (let x1 : Nat := m % Go.Sx.M256; let x2 : Nat := r % Go.Sx.M256; let x3 : Nat := a % Go.Sx.M256; let x4 : Int := Go.Sx.cmpI x3 x1; let x5 : Nat := b % Go.Sx.M256; let x6 : Int := Go.Sx.cmpI x5 x1; (Go.Sx.conj [x1 == (0 : Nat)] = Bool.true → ((0 : Nat) = x2 ∧ True) ∧ (7 : Int) = e) ∧ (Go.Sx.conj [x1 == (0 : Nat)] = Bool.false → (Decidable.decide (x4 ≥ (0 : Int)) = Bool.true → ((0 : Nat) = x2 ∧ True) ∧ (6 : Int) = e) ∧ (Decidable.decide (x4 ≥ (0 : Int)) = Bool.false → (Decidable.decide (x6 ≥ (0 : Int)) = Bool.true → ((0 : Nat) = x2 ∧ True) ∧ (6 : Int) = e) ∧ (Decidable.decide (x6 ≥ (0 : Int)) = Bool.false → ((i == (1 : Int)) = Bool.true → x1 ≠ (0 : Nat) ∧ ((x3 + x5) % x1 % Go.Sx.M256 = x2 ∧ True) ∧ (0 : Int) = e) ∧ ((i == (1 : Int)) = Bool.false → ((i == (2 : Int)) = Bool.true → x5 ≤ x1 ∧ x1 ≠ (0 : Nat) ∧ ((x3 + (if x5 = (0 : Nat) then (0 : Nat) else x1 - x5) % Go.Sx.M256) % x1 % Go.Sx.M256 = x2 ∧ True) ∧ (0 : Int) = e) ∧ ((i == (2 : Int)) = Bool.false → x1 ≠ (0 : Nat) ∧ x3 < x1 ∧ x5 < x1 ∧ (x3 * x5 % x1 % Go.Sx.M256 = x2 ∧ True) ∧ (0 : Int) = e)))))) := by kernel_rfl
-- END VC
end Go.Proofs.Ytbjdchpncbgpnaa
end

section
/-
  The reference's wide numbers, and those by a modulus.
-/
namespace Go.Proofs.Ytbjdchpncbgpnaa
open Go Go.Sx Go.RowKit

theorem vn8 {X : Nat} (h : X < M256) : vn 8 (fun i => dg X i) = X := vn_dg' (n := 8) h
theorem vnk {k X : Nat} (h : X < 4294967296 ^ k) : vn k (fun i => dg X i) = X := vn_dg' h
theorem modM (a : Nat) : a % M256 < M256 := Nat.mod_lt _ (by decide)
theorem M9 : (4294967296 : Nat) ^ 9 = M256 * 4294967296 := rfl
theorem M16 : (4294967296 : Nat) ^ 16 = M256 * M256 := rfl

theorem ok_refOrd (a b : Nat) : OwesV Try.prog .none slAll [] 4 Try.f78 [sU a, sU b] (ordG a b) := by
  rw [vc_refOrd]
  intro x1 x2
  have h1 : x1 < M256 := modM a
  have h2 : x2 < M256 := modM b
  have T : ∀ i : Nat, True := fun _ => trivial
  have key : cmpI (vn 8 fun i => dg x1 i) (vn 8 fun i => dg x2 i) = cmpI x1 x2 := by rw [vn8 h1, vn8 h2]
  clear_value x1 x2
  repeat' (first | exact T | exact key | exact dgs_dg _ _ | exact (show (8 : Nat) ≤ 1000 by decide) | (intro _ _ _ _) | (refine And.intro ?_ ?_))
theorem cmpI_ge {A R : Nat} : cmpI A R ≥ 0 ↔ R ≤ A := by
  unfold cmpI
  by_cases h : A < R
  · rw [if_pos h]; omega
  · rw [if_neg h]
    by_cases k : R < A
    · rw [if_pos k]; omega
    · rw [if_neg k]; omega
end Go.Proofs.Ytbjdchpncbgpnaa
end

section
/-
  The reference's quotients, and numbers by a modulus.
-/
namespace Go.Proofs.Ytbjdchpncbgpnaa
open Go Go.Sx Go.RowKit

theorem remL_lt {X Y n : Nat} (hX : X < 4294967296 ^ n) (hY : 0 < Y) : X % Y < 4294967296 ^ remL X Y n := by
  unfold remL
  have hm := Nat.mod_lt X hY
  by_cases h : Y < 4294967296
  · rw [if_pos h]; omega
  · rw [if_neg h]
    by_cases h0 : n = 0
    · subst h0
      rw [if_pos rfl]
      have : X = 0 := by simpa using hX
      subst this
      rw [Nat.zero_mod]; decide
    · rw [if_neg h0]
      obtain ⟨_, e⟩ := quo_digit (X := X) (k := 0) hY
      rw [Nat.pow_zero, Nat.div_one, Nat.zero_add, Nat.pow_one] at e
      have hr := dg_range X 0
      have hl := lenDg_lt (X / 4294967296 % Y)
      rw [e, Nat.add_comm 1, Nat.pow_succ]
      refine Nat.lt_of_le_of_lt (Nat.mod_le _ _) ?_
      have : (X / 4294967296 % Y + 1) * 4294967296 ≤ 4294967296 ^ lenDg (X / 4294967296 % Y) * 4294967296 := Nat.mul_le_mul_right _ hl
      omega
theorem remL_le {X Y n : Nat} (hY : 0 < Y) (hYM : Y < M256) : remL X Y n ≤ 9 := by
  unfold remL
  split
  · decide
  · split
    · decide
    · have : lenDg (X / 4294967296 % Y) ≤ 8 := lenDg_le (Nat.lt_trans (Nat.mod_lt _ hY) hYM)
      omega
theorem eq0_conj {x : Nat} : conj [x == 0] = (x == 0) := by simp [conj]
theorem ok_refRest (a : Option Addr) (n c : Nat) (f : Nat → Int) (m : Nat) (hf : dgs n f) (hn : n ≤ 1000) (hm : m % M256 ≠ 0) : OwesR Try.prog .none slAll [] 4 Try.f79 [xsI a n c .u64 f, sU m] false (restUR n f m) := by
  rw [vc_refRest]
  intro x1 x2 x3 x4 x5
  have hb : x1 < M256 := modM m
  have E2 : x2 = x1 := vn8 hb
  have E3 : x3 = remL (vn n f) x2 n := rfl
  have T : ∀ i : Nat, True := fun _ => trivial
  have hx : x1 ≠ 0 := hm
  have K1 : x2 ≠ 0 := by rw [E2]; exact hx
  have K2 : x3 ≤ 1000 := by
    have := remL_le (X := vn n f) (n := n) (show 0 < x2 by omega) (by omega)
    omega
  have F : (vn x3 fun i => dg ((vn n fun i => f i) % x2) i) % M256 % M256 = vn n f % x1 % M256 ∧ True := by
    rw [E3, show (fun i => f i) = f from rfl, vnk (remL_lt (vn_lt hf) (by omega)), E2, Nat.mod_mod]
    exact ⟨rfl, trivial⟩
  clear E2 E3
  clear_value x1 x2 x3 x4 x5
  repeat' (first | exact T | exact K1 | exact K2 | exact F | exact hf | exact hn | exact dgs_dg _ _ | exact (show (8 : Nat) ≤ 1000 by decide) | exact (show (8 : Nat) ≤ 900 by decide) | (intro _ _ _ _) | (refine And.intro ?_ ?_) | (intro _))
theorem card_refRest : FnOKs Try.prog [] 79 (specDU restUC restUR) :=
  FnOKs_DU (iv := fun _ _ _ _ _ => []) cx_none sl_all Try.func79 (by kernel_rfl) (by kernel_rfl) (fun _ _ _ x hx => by simp only [restUR, List.mem_singleton] at hx; subst hx; exact bnd_Un _) fun a n c f m ⟨h1, h2, h3, _⟩ => ok_refRest a n c f m h1 h2 h3
theorem sl_rest : ∀ p ∈ slRest, FnOKs Try.prog [] p.1 p.2 := fun p hp => by
  rcases List.mem_cons.1 hp with rfl | hp
  · exact card_refRest
  · exact sl_all p hp
theorem ok_refOpp (a m : Nat) (h : a % M256 ≤ m % M256) : OwesV Try.prog .none slAll [] 4 Try.f60 [sU a, sU m] (oppG a m) := by
  unfold oppG
  obtain ⟨r, hr⟩ : ∃ r, r = (if a % M256 = 0 then 0 else m % M256 - a % M256) := ⟨_, rfl⟩
  rw [← hr, vc_refOpp]
  intro x1 x2 x3 x4
  have h1 : x1 < M256 := modM a
  have h2 : m % M256 < M256 := modM m
  have E1 : x1 = a % M256 := rfl
  have E2 : x2 = r % M256 := rfl
  have E3 : x3 = x1 := vn8 h1
  have E4 : x4 = m % M256 := vn8 h2
  have T : ∀ i : Nat, True := fun _ => trivial
  have hM : 0 < M256 := by decide
  have K0 : conj [x1 == 0] = true → x1 = x2 ∧ True := fun h => by
    rw [eq0_conj] at h
    have h := eq_of_beq h
    rw [← E1, if_pos h] at hr
    rw [E2, hr, h, Nat.zero_mod]
    exact ⟨rfl, trivial⟩
  have K1 : x3 ≤ x4 := by rw [E3, E4, E1]; exact h
  have F : conj [x1 == 0] = false → (vn 8 fun i => dg (x4 - x3) i) % M256 % M256 = x2 ∧ True := fun h => by
    rw [eq0_conj] at h
    have h := ne_of_beq_false h
    rw [← E1, if_neg h] at hr
    rw [vn8 (by omega), E2, hr, E4, E3, Nat.mod_mod]
    exact ⟨rfl, trivial⟩
  clear E1 E2 E3 E4 hr h hM
  clear_value x1 x2 x3 x4
  repeat' (first | exact T | exact K0 (by assumption) | exact K1 | exact F (by assumption) | exact dgs_dg _ _ | exact (show (8 : Nat) ≤ 1000 by decide) | (intro _ _ _ _) | (refine And.intro ?_ ?_) | (intro _))
end Go.Proofs.Ytbjdchpncbgpnaa
end

section
/-
  The reference's numbers by a modulus: sums, differences and products.
-/
namespace Go.Proofs.Ytbjdchpncbgpnaa
open Go Go.Sx Go.RowKit

theorem ok_refTot (a b m : Nat) (hm : m % M256 ≠ 0) : OwesV Try.prog .none slRest [] 4 Try.f59 [sU a, sU b, sU m] (totG a b m) := by
  rw [vc_refTot]
  intro x1 x2 x3
  have h1 : x1 < M256 := modM a
  have h2 : x2 < M256 := modM b
  have T : ∀ i : Nat, True := fun _ => trivial
  have K : x3 ≠ 0 := hm
  have F : (vn 9 fun i => dg ((vn 8 fun i => dg x1 i) + vn 8 fun i => dg x2 i) i) % x3 % M256 = (x1 + x2) % x3 % M256 ∧ True := by
    rw [vn8 h1, vn8 h2, vnk (by rw [M9]; omega)]
    exact ⟨rfl, trivial⟩
  clear_value x1 x2 x3
  repeat' (first | exact T | exact K | exact F | exact dgs_dg _ _ | exact (show (8 : Nat) ≤ 1000 by decide) | exact (show (9 : Nat) ≤ 1000 by decide) | (intro _ _ _ _) | (refine And.intro ?_ ?_))
theorem or_zero {a b c : Int} (ha : 0 ≤ a ∧ a < 18446744073709551616) (hb : 0 ≤ b ∧ b < 18446744073709551616) (hc : 0 ≤ c ∧ c < 18446744073709551616)
    (h : (IntKind.u64.wrap (↑(BitVec.ofInt 64 (IntKind.u64.wrap (↑(BitVec.ofInt 64 a ||| BitVec.ofInt 64 b).toNat)) ||| BitVec.ofInt 64 c).toNat) == 0) = true) : a = 0 ∧ b = 0 ∧ c = 0 := by
  have h := eq_of_beq h
  have l : ∀ x : BitVec 64, IntKind.u64.wrap (x.toNat : Int) = (x.toNat : Int) := fun x => wrap64 ⟨Int.natCast_nonneg _, by have := x.isLt; omega⟩
  have e : ∀ x : BitVec 64, BitVec.ofInt 64 (x.toNat : Int) = x := fun x => by
    apply BitVec.eq_of_toNat_eq
    rw [BitVec.toNat_ofInt]
    have := x.isLt
    omega
  rw [l, l, e] at h
  have h : (BitVec.ofInt 64 a ||| BitVec.ofInt 64 b) ||| BitVec.ofInt 64 c = 0#64 := by
    apply BitVec.eq_of_toNat_eq
    show _ = 0
    omega
  rw [BitVec.or_eq_zero_iff, BitVec.or_eq_zero_iff] at h
  have z : ∀ y : Int, 0 ≤ y ∧ y < 18446744073709551616 → BitVec.ofInt 64 y = 0#64 → y = 0 := fun y hy h => by
    have := congrArg BitVec.toNat h
    rw [BitVec.toNat_ofInt] at this
    simp at this
    omega
  exact ⟨z a ha h.1.1, z b hb h.1.2, z c hc h.2⟩
theorem limb_range (a i : Nat) : 0 ≤ limb a i ∧ limb a i < 18446744073709551616 := ⟨limb_nonneg a i, limb_lt a i⟩
theorem small_modD {m : Nat} (h1 : limb m 1 = 0) (h2 : limb m 2 = 0) (h3 : limb m 3 = 0) : ((m % M256 : Nat) : Int) = limb m 0 := by
  have := join_limbs m
  rw [h1, h2, h3] at this
  unfold join at this
  have r := limb_range m 0
  omega
theorem small_limb {a : Nat} (h : a % M256 < 18446744073709551616) : limb a 0 = ((a % M256 : Nat) : Int) := by
  have := join_limbs a
  unfold join at this
  have r0 := limb_range a 0
  have r1 := limb_range a 1
  have r2 := limb_range a 2
  have r3 := limb_range a 3
  omega
theorem ok_refPro (a b m : Nat) (hm : m % M256 ≠ 0) (ha : a % M256 < m % M256) (hb : b % M256 < m % M256) : OwesV Try.prog .none slRest [] 4 Try.f61 [sU a, sU b, sU m] (proG a b m) := by
  unfold proG
  rw [vc_refPro]
  intro x1 x2 x3 x4
  have h1 := modM a
  have h2 := modM b
  have E3 : x3 = a % M256 * (b % M256) % (m % M256) % M256 := rfl
  have E4 : x4 = m % M256 := rfl
  have E1 : x1 = (IntKind.u64.wrap (↑(BitVec.ofInt 64 (IntKind.u64.wrap (↑(BitVec.ofInt 64 (limb m 1) ||| BitVec.ofInt 64 (limb m 2)).toNat)) ||| BitVec.ofInt 64 (limb m 3)).toNat) == 0) := rfl
  have E2 : x2 = (IntKind.u64.wrap (limb a 0 * limb b 0)).tmod (limb m 0) := rfl
  have T : ∀ i : Nat, True := fun _ => trivial
  have K : x4 ≠ 0 := hm
  have Z : (0 : Int) ≤ 0 ∧ (0 : Int) < 18446744073709551616 := by decide
  have F : (vn 16 fun i => dg ((vn 8 fun i => dg (a % M256) i) * vn 8 fun i => dg (b % M256) i) i) % x4 % M256 = x3 ∧ True := by
    rw [vn8 h1, vn8 h2, vnk (by rw [M16]; exact Nat.lt_of_le_of_lt (Nat.mul_le_mul (Nat.le_of_lt h1) (Nat.le_refl _)) (Nat.mul_lt_mul_of_pos_left h2 (by decide))), E3, E4]
    exact ⟨rfl, trivial⟩
  have S : (x1 && decide (limb m 0 < 4294967296)) = true → limb m 0 ≠ 0 ∧ (0 ≤ x2 ∧ x2 < 18446744073709551616) ∧ join x2 0 0 0 % M256 = x3 ∧ True := fun h => by
    rw [Bool.and_eq_true] at h
    obtain ⟨e1, e2⟩ := h
    rw [E1] at e1
    have e2 := of_decide_eq_true e2
    obtain ⟨z1, z2, z3⟩ := or_zero (limb_range m 1) (limb_range m 2) (limb_range m 3) e1
    have em := small_modD z1 z2 z3
    have hA : a % M256 < 4294967296 := by omega
    have hB : b % M256 < 4294967296 := by omega
    have eA := small_limb (a := a) (by omega)
    have eB := small_limb (a := b) (by omega)
    have hp : a % M256 * (b % M256) < 18446744073709551616 := Nat.lt_of_le_of_lt (Nat.mul_le_mul (show a % M256 ≤ 4294967295 by omega) (show b % M256 ≤ 4294967295 by omega)) (by decide)
    have e3 : x2 = ((a % M256 * (b % M256) % (m % M256) : Nat) : Int) := by
      rw [E2, eA, eB, ← em, ← Int.natCast_mul, wrap64 ⟨Int.natCast_nonneg _, by omega⟩, Int.tmod_eq_emod_of_nonneg (Int.natCast_nonneg _)]
      exact (Int.natCast_emod _ _).symm
    have hlt : a % M256 * (b % M256) % (m % M256) < m % M256 := Nat.mod_lt _ (by omega)
    refine ⟨by omega, by omega, ?_, trivial⟩
    rw [E3]
    have : join x2 0 0 0 = a % M256 * (b % M256) % (m % M256) := by
      unfold join
      rw [e3, Int.toNat_natCast]
      rfl
    rw [this]
  clear E1 E2 E3 E4 ha hb h1 h2
  clear_value x1 x2 x3 x4
  refine ⟨id, id, id, fun h => ⟨(S h).1, (S h).2.1, Z, Z, Z, (S h).2.2⟩, fun _ => ?_⟩
  repeat' (first | exact T | exact K | exact F | exact dgs_dg _ _ | exact (show (8 : Nat) ≤ 1000 by decide) | exact (show (16 : Nat) ≤ 1000 by decide) | (intro _ _ _ _) | (refine And.intro ?_ ?_))
theorem card_refOrd : FnOK Try.prog 78 (specUU ordG) :=
  FnOKV_UU (iv := fun _ _ => []) cx_none sl_all Try.func78 (by kernel_rfl) (by kernel_rfl) (fun a b => trivial) ok_refOrd
theorem card_refTot : FnOK Try.prog 59 (specUUU modC totG) :=
  FnOKV_UUU (iv := fun _ _ _ => []) cx_none sl_rest Try.func59 (by kernel_rfl) (by kernel_rfl) (fun _ _ _ => bnd_Un _) fun a b m ⟨h, _⟩ => ok_refTot a b m h
theorem card_refOpp : FnOK Try.prog 60 (specUUC oppC oppG) :=
  FnOKV_UUC (iv := fun _ _ => []) cx_none sl_all Try.func60 (by kernel_rfl) (by kernel_rfl) (fun _ _ => bnd_Un _) fun a m ⟨h, _⟩ => ok_refOpp a m h
theorem card_refPro : FnOK Try.prog 61 (specUUU proC proG) :=
  FnOKV_UUU (iv := fun _ _ _ => []) cx_none sl_rest Try.func61 (by kernel_rfl) (by kernel_rfl) (fun _ _ _ => bnd_Un _) fun a b m ⟨h1, h2, h3, _⟩ => ok_refPro a b m h1 h2 h3
end Go.Proofs.Ytbjdchpncbgpnaa
end

section
/-
  What the functions of package wide, and of the laws on it, come to: reckoned by the kernel. (Laid by program.)
-/
namespace Go.Proofs.Ytbjdchpncbgpnaa
open Go.Sx
set_option maxRecDepth 100000
def cxPlus : Cx := [(68, specAdd64)]
def cxLess : Cx := [(69, specSub64)]
def cxAdd : Cx := [(37, specUU plusG)]
def cxSub : Cx := [(38, specUU lessG)]
-- VC vc_plus HASH 178c7781736d42d5
theorem vc_plus (a b : Nat) :
    Owes Try.prog cxPlus [] 100 Try.f37 [sU a, sU b] (plusG a b) =
    ((0 : Int) ≤ Go.Sx.limb a (0 : Nat) ∧ (0 : Int) ≤ Go.Sx.limb b (0 : Nat) ∧ ((0 : Int) ≤ (0 : Int) ∧ (0 : Int) ≤ (1 : Int)) ∧ (0 : Int) ≤ Go.Sx.limb a (1 : Nat) ∧ (0 : Int) ≤ Go.Sx.limb b (1 : Nat) ∧ ((0 : Int) ≤ (Go.Sx.limb a (0 : Nat) + Go.Sx.limb b (0 : Nat) + (0 : Int)) / (18446744073709551616 : Int) ∧ (Go.Sx.limb a (0 : Nat) + Go.Sx.limb b (0 : Nat) + (0 : Int)) / (18446744073709551616 : Int) ≤ (1 : Int)) ∧ (0 : Int) ≤ Go.Sx.limb a (2 : Nat) ∧ (0 : Int) ≤ Go.Sx.limb b (2 : Nat) ∧ ((0 : Int) ≤ (Go.Sx.limb a (1 : Nat) + Go.Sx.limb b (1 : Nat) + (Go.Sx.limb a (0 : Nat) + Go.Sx.limb b (0 : Nat) + (0 : Int)) / (18446744073709551616 : Int)) / (18446744073709551616 : Int) ∧ (Go.Sx.limb a (1 : Nat) + Go.Sx.limb b (1 : Nat) + (Go.Sx.limb a (0 : Nat) + Go.Sx.limb b (0 : Nat) + (0 : Int)) / (18446744073709551616 : Int)) / (18446744073709551616 : Int) ≤ (1 : Int)) ∧ (0 : Int) ≤ Go.Sx.limb a (3 : Nat) ∧ (0 : Int) ≤ Go.Sx.limb b (3 : Nat) ∧ ((0 : Int) ≤ (Go.Sx.limb a (2 : Nat) + Go.Sx.limb b (2 : Nat) + (Go.Sx.limb a (1 : Nat) + Go.Sx.limb b (1 : Nat) + (Go.Sx.limb a (0 : Nat) + Go.Sx.limb b (0 : Nat) + (0 : Int)) / (18446744073709551616 : Int)) / (18446744073709551616 : Int)) / (18446744073709551616 : Int) ∧ (Go.Sx.limb a (2 : Nat) + Go.Sx.limb b (2 : Nat) + (Go.Sx.limb a (1 : Nat) + Go.Sx.limb b (1 : Nat) + (Go.Sx.limb a (0 : Nat) + Go.Sx.limb b (0 : Nat) + (0 : Int)) / (18446744073709551616 : Int)) / (18446744073709551616 : Int)) / (18446744073709551616 : Int) ≤ (1 : Int)) ∧ (((0 : Int) ≤ (Go.Sx.limb a (0 : Nat) + Go.Sx.limb b (0 : Nat) + (0 : Int)) % (18446744073709551616 : Int) ∧ (Go.Sx.limb a (0 : Nat) + Go.Sx.limb b (0 : Nat) + (0 : Int)) % (18446744073709551616 : Int) < (2 : Int) ^ (64 : Nat)) ∧ ((0 : Int) ≤ (Go.Sx.limb a (1 : Nat) + Go.Sx.limb b (1 : Nat) + (Go.Sx.limb a (0 : Nat) + Go.Sx.limb b (0 : Nat) + (0 : Int)) / (18446744073709551616 : Int)) % (18446744073709551616 : Int) ∧ (Go.Sx.limb a (1 : Nat) + Go.Sx.limb b (1 : Nat) + (Go.Sx.limb a (0 : Nat) + Go.Sx.limb b (0 : Nat) + (0 : Int)) / (18446744073709551616 : Int)) % (18446744073709551616 : Int) < (2 : Int) ^ (64 : Nat)) ∧ ((0 : Int) ≤ (Go.Sx.limb a (2 : Nat) + Go.Sx.limb b (2 : Nat) + (Go.Sx.limb a (1 : Nat) + Go.Sx.limb b (1 : Nat) + (Go.Sx.limb a (0 : Nat) + Go.Sx.limb b (0 : Nat) + (0 : Int)) / (18446744073709551616 : Int)) / (18446744073709551616 : Int)) % (18446744073709551616 : Int) ∧ (Go.Sx.limb a (2 : Nat) + Go.Sx.limb b (2 : Nat) + (Go.Sx.limb a (1 : Nat) + Go.Sx.limb b (1 : Nat) + (Go.Sx.limb a (0 : Nat) + Go.Sx.limb b (0 : Nat) + (0 : Int)) / (18446744073709551616 : Int)) / (18446744073709551616 : Int)) % (18446744073709551616 : Int) < (2 : Int) ^ (64 : Nat)) ∧ ((0 : Int) ≤ (Go.Sx.limb a (3 : Nat) + Go.Sx.limb b (3 : Nat) + (Go.Sx.limb a (2 : Nat) + Go.Sx.limb b (2 : Nat) + (Go.Sx.limb a (1 : Nat) + Go.Sx.limb b (1 : Nat) + (Go.Sx.limb a (0 : Nat) + Go.Sx.limb b (0 : Nat) + (0 : Int)) / (18446744073709551616 : Int)) / (18446744073709551616 : Int)) / (18446744073709551616 : Int)) % (18446744073709551616 : Int) ∧ (Go.Sx.limb a (3 : Nat) + Go.Sx.limb b (3 : Nat) + (Go.Sx.limb a (2 : Nat) + Go.Sx.limb b (2 : Nat) + (Go.Sx.limb a (1 : Nat) + Go.Sx.limb b (1 : Nat) + (Go.Sx.limb a (0 : Nat) + Go.Sx.limb b (0 : Nat) + (0 : Int)) / (18446744073709551616 : Int)) / (18446744073709551616 : Int)) / (18446744073709551616 : Int)) % (18446744073709551616 : Int) < (2 : Int) ^ (64 : Nat)) ∧ Go.Sx.join ((Go.Sx.limb a (0 : Nat) + Go.Sx.limb b (0 : Nat) + (0 : Int)) % (18446744073709551616 : Int)) ((Go.Sx.limb a (1 : Nat) + Go.Sx.limb b (1 : Nat) + (Go.Sx.limb a (0 : Nat) + Go.Sx.limb b (0 : Nat) + (0 : Int)) / (18446744073709551616 : Int)) % (18446744073709551616 : Int)) ((Go.Sx.limb a (2 : Nat) + Go.Sx.limb b (2 : Nat) + (Go.Sx.limb a (1 : Nat) + Go.Sx.limb b (1 : Nat) + (Go.Sx.limb a (0 : Nat) + Go.Sx.limb b (0 : Nat) + (0 : Int)) / (18446744073709551616 : Int)) / (18446744073709551616 : Int)) % (18446744073709551616 : Int)) ((Go.Sx.limb a (3 : Nat) + Go.Sx.limb b (3 : Nat) + (Go.Sx.limb a (2 : Nat) + Go.Sx.limb b (2 : Nat) + (Go.Sx.limb a (1 : Nat) + Go.Sx.limb b (1 : Nat) + (Go.Sx.limb a (0 : Nat) + Go.Sx.limb b (0 : Nat) + (0 : Int)) / (18446744073709551616 : Int)) / (18446744073709551616 : Int)) / (18446744073709551616 : Int)) % (18446744073709551616 : Int)) % Go.Sx.M256 = (a + b) % Go.Sx.M256 ∧ True) ∧ (Go.Sx.limb a (3 : Nat) + Go.Sx.limb b (3 : Nat) + (Go.Sx.limb a (2 : Nat) + Go.Sx.limb b (2 : Nat) + (Go.Sx.limb a (1 : Nat) + Go.Sx.limb b (1 : Nat) + (Go.Sx.limb a (0 : Nat) + Go.Sx.limb b (0 : Nat) + (0 : Int)) / (18446744073709551616 : Int)) / (18446744073709551616 : Int)) / (18446744073709551616 : Int)) / (18446744073709551616 : Int) = (↑((a % Go.Sx.M256 + b % Go.Sx.M256) / Go.Sx.M256) : Int)) := by kernel_rfl
-- END VC
-- VC vc_less HASH ad2bd2c1708ef4a5
theorem vc_less (a b : Nat) :
    Owes Try.prog cxLess [] 100 Try.f38 [sU a, sU b] (lessG a b) =
    (((0 : Int) ≤ Go.Sx.limb a (0 : Nat) ∧ Go.Sx.limb a (0 : Nat) < (18446744073709551616 : Int)) ∧ ((0 : Int) ≤ Go.Sx.limb b (0 : Nat) ∧ Go.Sx.limb b (0 : Nat) < (18446744073709551616 : Int)) ∧ ((0 : Int) ≤ (0 : Int) ∧ (0 : Int) ≤ (1 : Int)) ∧ ((0 : Int) ≤ Go.Sx.limb a (1 : Nat) ∧ Go.Sx.limb a (1 : Nat) < (18446744073709551616 : Int)) ∧ ((0 : Int) ≤ Go.Sx.limb b (1 : Nat) ∧ Go.Sx.limb b (1 : Nat) < (18446744073709551616 : Int)) ∧ ((0 : Int) ≤ -((Go.Sx.limb a (0 : Nat) - Go.Sx.limb b (0 : Nat) - (0 : Int)) / (18446744073709551616 : Int)) ∧ -((Go.Sx.limb a (0 : Nat) - Go.Sx.limb b (0 : Nat) - (0 : Int)) / (18446744073709551616 : Int)) ≤ (1 : Int)) ∧ ((0 : Int) ≤ Go.Sx.limb a (2 : Nat) ∧ Go.Sx.limb a (2 : Nat) < (18446744073709551616 : Int)) ∧ ((0 : Int) ≤ Go.Sx.limb b (2 : Nat) ∧ Go.Sx.limb b (2 : Nat) < (18446744073709551616 : Int)) ∧ ((0 : Int) ≤ -((Go.Sx.limb a (1 : Nat) - Go.Sx.limb b (1 : Nat) - -((Go.Sx.limb a (0 : Nat) - Go.Sx.limb b (0 : Nat) - (0 : Int)) / (18446744073709551616 : Int))) / (18446744073709551616 : Int)) ∧ -((Go.Sx.limb a (1 : Nat) - Go.Sx.limb b (1 : Nat) - -((Go.Sx.limb a (0 : Nat) - Go.Sx.limb b (0 : Nat) - (0 : Int)) / (18446744073709551616 : Int))) / (18446744073709551616 : Int)) ≤ (1 : Int)) ∧ ((0 : Int) ≤ Go.Sx.limb a (3 : Nat) ∧ Go.Sx.limb a (3 : Nat) < (18446744073709551616 : Int)) ∧ ((0 : Int) ≤ Go.Sx.limb b (3 : Nat) ∧ Go.Sx.limb b (3 : Nat) < (18446744073709551616 : Int)) ∧ ((0 : Int) ≤ -((Go.Sx.limb a (2 : Nat) - Go.Sx.limb b (2 : Nat) - -((Go.Sx.limb a (1 : Nat) - Go.Sx.limb b (1 : Nat) - -((Go.Sx.limb a (0 : Nat) - Go.Sx.limb b (0 : Nat) - (0 : Int)) / (18446744073709551616 : Int))) / (18446744073709551616 : Int))) / (18446744073709551616 : Int)) ∧ -((Go.Sx.limb a (2 : Nat) - Go.Sx.limb b (2 : Nat) - -((Go.Sx.limb a (1 : Nat) - Go.Sx.limb b (1 : Nat) - -((Go.Sx.limb a (0 : Nat) - Go.Sx.limb b (0 : Nat) - (0 : Int)) / (18446744073709551616 : Int))) / (18446744073709551616 : Int))) / (18446744073709551616 : Int)) ≤ (1 : Int)) ∧ (((0 : Int) ≤ (Go.Sx.limb a (0 : Nat) - Go.Sx.limb b (0 : Nat) - (0 : Int)) % (18446744073709551616 : Int) ∧ (Go.Sx.limb a (0 : Nat) - Go.Sx.limb b (0 : Nat) - (0 : Int)) % (18446744073709551616 : Int) < (2 : Int) ^ (64 : Nat)) ∧ ((0 : Int) ≤ (Go.Sx.limb a (1 : Nat) - Go.Sx.limb b (1 : Nat) - -((Go.Sx.limb a (0 : Nat) - Go.Sx.limb b (0 : Nat) - (0 : Int)) / (18446744073709551616 : Int))) % (18446744073709551616 : Int) ∧ (Go.Sx.limb a (1 : Nat) - Go.Sx.limb b (1 : Nat) - -((Go.Sx.limb a (0 : Nat) - Go.Sx.limb b (0 : Nat) - (0 : Int)) / (18446744073709551616 : Int))) % (18446744073709551616 : Int) < (2 : Int) ^ (64 : Nat)) ∧ ((0 : Int) ≤ (Go.Sx.limb a (2 : Nat) - Go.Sx.limb b (2 : Nat) - -((Go.Sx.limb a (1 : Nat) - Go.Sx.limb b (1 : Nat) - -((Go.Sx.limb a (0 : Nat) - Go.Sx.limb b (0 : Nat) - (0 : Int)) / (18446744073709551616 : Int))) / (18446744073709551616 : Int))) % (18446744073709551616 : Int) ∧ (Go.Sx.limb a (2 : Nat) - Go.Sx.limb b (2 : Nat) - -((Go.Sx.limb a (1 : Nat) - Go.Sx.limb b (1 : Nat) - -((Go.Sx.limb a (0 : Nat) - Go.Sx.limb b (0 : Nat) - (0 : Int)) / (18446744073709551616 : Int))) / (18446744073709551616 : Int))) % (18446744073709551616 : Int) < (2 : Int) ^ (64 : Nat)) ∧ ((0 : Int) ≤ (Go.Sx.limb a (3 : Nat) - Go.Sx.limb b (3 : Nat) - -((Go.Sx.limb a (2 : Nat) - Go.Sx.limb b (2 : Nat) - -((Go.Sx.limb a (1 : Nat) - Go.Sx.limb b (1 : Nat) - -((Go.Sx.limb a (0 : Nat) - Go.Sx.limb b (0 : Nat) - (0 : Int)) / (18446744073709551616 : Int))) / (18446744073709551616 : Int))) / (18446744073709551616 : Int))) % (18446744073709551616 : Int) ∧ (Go.Sx.limb a (3 : Nat) - Go.Sx.limb b (3 : Nat) - -((Go.Sx.limb a (2 : Nat) - Go.Sx.limb b (2 : Nat) - -((Go.Sx.limb a (1 : Nat) - Go.Sx.limb b (1 : Nat) - -((Go.Sx.limb a (0 : Nat) - Go.Sx.limb b (0 : Nat) - (0 : Int)) / (18446744073709551616 : Int))) / (18446744073709551616 : Int))) / (18446744073709551616 : Int))) % (18446744073709551616 : Int) < (2 : Int) ^ (64 : Nat)) ∧ Go.Sx.join ((Go.Sx.limb a (0 : Nat) - Go.Sx.limb b (0 : Nat) - (0 : Int)) % (18446744073709551616 : Int)) ((Go.Sx.limb a (1 : Nat) - Go.Sx.limb b (1 : Nat) - -((Go.Sx.limb a (0 : Nat) - Go.Sx.limb b (0 : Nat) - (0 : Int)) / (18446744073709551616 : Int))) % (18446744073709551616 : Int)) ((Go.Sx.limb a (2 : Nat) - Go.Sx.limb b (2 : Nat) - -((Go.Sx.limb a (1 : Nat) - Go.Sx.limb b (1 : Nat) - -((Go.Sx.limb a (0 : Nat) - Go.Sx.limb b (0 : Nat) - (0 : Int)) / (18446744073709551616 : Int))) / (18446744073709551616 : Int))) % (18446744073709551616 : Int)) ((Go.Sx.limb a (3 : Nat) - Go.Sx.limb b (3 : Nat) - -((Go.Sx.limb a (2 : Nat) - Go.Sx.limb b (2 : Nat) - -((Go.Sx.limb a (1 : Nat) - Go.Sx.limb b (1 : Nat) - -((Go.Sx.limb a (0 : Nat) - Go.Sx.limb b (0 : Nat) - (0 : Int)) / (18446744073709551616 : Int))) / (18446744073709551616 : Int))) / (18446744073709551616 : Int))) % (18446744073709551616 : Int)) % Go.Sx.M256 = (a % Go.Sx.M256 + Go.Sx.M256 - b % Go.Sx.M256) % Go.Sx.M256 ∧ True) ∧ -((Go.Sx.limb a (3 : Nat) - Go.Sx.limb b (3 : Nat) - -((Go.Sx.limb a (2 : Nat) - Go.Sx.limb b (2 : Nat) - -((Go.Sx.limb a (1 : Nat) - Go.Sx.limb b (1 : Nat) - -((Go.Sx.limb a (0 : Nat) - Go.Sx.limb b (0 : Nat) - (0 : Int)) / (18446744073709551616 : Int))) / (18446744073709551616 : Int))) / (18446744073709551616 : Int))) / (18446744073709551616 : Int)) = if a % Go.Sx.M256 < b % Go.Sx.M256 then (1 : Int) else (0 : Int)) := by kernel_rfl
-- END VC
-- VC vc_Add HASH f007b94b00e223b1
theorem vc_Add (a b : Nat) :
    Owes Try.prog cxAdd [] 100 Try.f13 [sU a, sU b] (addG a b) =
    (((a + b) % Go.Sx.M256 = (a + b) % Go.Sx.M256 ∧ True) ∧ ((↑((a % Go.Sx.M256 + b % Go.Sx.M256) / Go.Sx.M256) : Int) != (0 : Int)) = Decidable.decide (Go.Sx.M256 ≤ a % Go.Sx.M256 + b % Go.Sx.M256)) := by kernel_rfl
-- END VC
-- VC vc_Sub HASH fbd9d78c311374f3
theorem vc_Sub (a b : Nat) :
    Owes Try.prog cxSub [] 100 Try.f14 [sU a, sU b] (subG a b) =
    (((a % Go.Sx.M256 + Go.Sx.M256 - b % Go.Sx.M256) % Go.Sx.M256 = (a % Go.Sx.M256 + Go.Sx.M256 - b % Go.Sx.M256) % Go.Sx.M256 ∧ True) ∧ ((if a % Go.Sx.M256 < b % Go.Sx.M256 then (1 : Int) else (0 : Int)) != (0 : Int)) = Decidable.decide (a % Go.Sx.M256 < b % Go.Sx.M256)) := by kernel_rfl
-- END VC
-- VC vc_Cmp HASH 7612095f625b123f
theorem vc_Cmp (a b : Nat) :
    Owes Try.prog Cx.none [] 100 Try.f77 [sU a, sU b] (cmpG a b) =
    ((Decidable.decide (Go.Sx.limb a (3 : Nat) < Go.Sx.limb b (3 : Nat)) = Bool.true → (-1 : Int) = Go.Sx.cmpN a b) ∧ (Decidable.decide (Go.Sx.limb a (3 : Nat) < Go.Sx.limb b (3 : Nat)) = Bool.false → (Decidable.decide (Go.Sx.limb a (3 : Nat) > Go.Sx.limb b (3 : Nat)) = Bool.true → (1 : Int) = Go.Sx.cmpN a b) ∧ (Decidable.decide (Go.Sx.limb a (3 : Nat) > Go.Sx.limb b (3 : Nat)) = Bool.false → (Decidable.decide (Go.Sx.limb a (2 : Nat) < Go.Sx.limb b (2 : Nat)) = Bool.true → (-1 : Int) = Go.Sx.cmpN a b) ∧ (Decidable.decide (Go.Sx.limb a (2 : Nat) < Go.Sx.limb b (2 : Nat)) = Bool.false → (Decidable.decide (Go.Sx.limb a (2 : Nat) > Go.Sx.limb b (2 : Nat)) = Bool.true → (1 : Int) = Go.Sx.cmpN a b) ∧ (Decidable.decide (Go.Sx.limb a (2 : Nat) > Go.Sx.limb b (2 : Nat)) = Bool.false → (Decidable.decide (Go.Sx.limb a (1 : Nat) < Go.Sx.limb b (1 : Nat)) = Bool.true → (-1 : Int) = Go.Sx.cmpN a b) ∧ (Decidable.decide (Go.Sx.limb a (1 : Nat) < Go.Sx.limb b (1 : Nat)) = Bool.false → (Decidable.decide (Go.Sx.limb a (1 : Nat) > Go.Sx.limb b (1 : Nat)) = Bool.true → (1 : Int) = Go.Sx.cmpN a b) ∧ (Decidable.decide (Go.Sx.limb a (1 : Nat) > Go.Sx.limb b (1 : Nat)) = Bool.false → (Decidable.decide (Go.Sx.limb a (0 : Nat) < Go.Sx.limb b (0 : Nat)) = Bool.true → (-1 : Int) = Go.Sx.cmpN a b) ∧ (Decidable.decide (Go.Sx.limb a (0 : Nat) < Go.Sx.limb b (0 : Nat)) = Bool.false → (Decidable.decide (Go.Sx.limb a (0 : Nat) > Go.Sx.limb b (0 : Nat)) = Bool.true → (1 : Int) = Go.Sx.cmpN a b) ∧ (Decidable.decide (Go.Sx.limb a (0 : Nat) > Go.Sx.limb b (0 : Nat)) = Bool.false → (0 : Int) = Go.Sx.cmpN a b))))))))) := by kernel_rfl
-- END VC
end Go.Proofs.Ytbjdchpncbgpnaa
end

section
/-
  What products come to: reckoned by the kernel. (Laid by program.)
-/
namespace Go.Proofs.Ytbjdchpncbgpnaa
open Go.Sx
set_option maxRecDepth 100000
end Go.Proofs.Ytbjdchpncbgpnaa
end

section
/-
  The library's counting of bits, and its quotient of two words by one: reckoned by the kernel. (Laid by program.)
-/
namespace Go.Proofs.Ytbjdchpncbgpnaa
open Go.Sx
set_option maxRecDepth 100000
/-- At the heads of the two loops: the digit and what it leaves. h', l' are the two words moved, y1, y0 the divisor's halves, U the upper word, w1, w0 the lower word's halves, s the shift. -/
structure DivAt where
  q : Nat
  r : Nat
def shY (y : Int) : Int := y * 2 ^ (64 - lenN y).toNat
def shU (h l y : Int) : Int := h * 2 ^ (64 - lenN y).toNat + l / 2 ^ (lenN y).toNat
def shL (l y : Int) : Int := l * 2 ^ (64 - lenN y).toNat % 18446744073709551616
end Go.Proofs.Ytbjdchpncbgpnaa
end

section
/-
  Quotients: reckoned by the kernel. (Laid by program.)
-/
namespace Go.Proofs.Ytbjdchpncbgpnaa
open Go.Sx
set_option maxRecDepth 100000
end Go.Proofs.Ytbjdchpncbgpnaa
end

section
/-
  Texts of numbers: reckoned by the kernel. (Laid by program.)
-/
namespace Go.Proofs.Ytbjdchpncbgpnaa
open Go.Sx
set_option maxRecDepth 100000
end Go.Proofs.Ytbjdchpncbgpnaa
end

section
/-
  What powers of ten, and bytes, come to: reckoned by the kernel. (Laid by program.)
-/
namespace Go.Proofs.Ytbjdchpncbgpnaa
open Go.Sx
set_option maxRecDepth 100000
end Go.Proofs.Ytbjdchpncbgpnaa
end

section
/-
  Package wide's functions, each held to its card: the numbers' side.
-/
namespace Go.Proofs.Ytbjdchpncbgpnaa
open Go.Sx

theorem split4 (n : Nat) : ∃ a b c d : Nat, limb n 0 = a ∧ limb n 1 = b ∧ limb n 2 = c ∧ limb n 3 = d ∧ a < 18446744073709551616 ∧ b < 18446744073709551616 ∧ c < 18446744073709551616 ∧ d < 18446744073709551616 ∧
    n % M256 = a + 18446744073709551616 * b + 340282366920938463463374607431768211456 * c + 6277101735386680763835789423207666416102355444464034512896 * d := by
  refine ⟨n / 2 ^ (64 * 0) % 2 ^ 64, n / 2 ^ (64 * 1) % 2 ^ 64, n / 2 ^ (64 * 2) % 2 ^ 64, n / 2 ^ (64 * 3) % 2 ^ 64, rfl, rfl, rfl, rfl, Nat.mod_lt _ (by decide), Nat.mod_lt _ (by decide), Nat.mod_lt _ (by decide), Nat.mod_lt _ (by decide), ?_⟩
  rw [limbs_sum]
  simp only [Nat.mul_zero, Nat.pow_zero, Nat.div_one, Nat.mul_one, Nat.reduceMul, Nat.reducePow]

theorem M256_eq : M256 = 115792089237316195423570985008687907853269984665640564039457584007913129639936 := by decide

theorem carry_step (x y c : Nat) (hx : x < 18446744073709551616) (hy : y < 18446744073709551616) (hc : c ≤ 1) :
    ∃ s d : Nat, ((x : Int) + y + c) % 18446744073709551616 = s ∧ ((x : Int) + y + c) / 18446744073709551616 = d ∧ s < 18446744073709551616 ∧ d ≤ 1 ∧ x + y + c = s + 18446744073709551616 * d :=
  ⟨(x + y + c) % 18446744073709551616, (x + y + c) / 18446744073709551616, by omega, by omega, by omega, by omega, by omega⟩

theorem divmod_of {A S c M : Nat} (h : A = S + M * c) (hS : S < M) : A % M = S ∧ A / M = c := by
  subst h
  rw [Nat.add_mul_mod_self_left, Nat.mod_eq_of_lt hS, Nat.add_mul_div_left _ _ (by omega), Nat.div_eq_of_lt hS]
  exact ⟨rfl, by omega⟩

theorem ok_plus : ∀ a b, Owes Try.prog cxPlus [] 100 Try.f37 [sU a, sU b] (plusG a b) := by
  intro a b
  rw [vc_plus]
  have hab := Nat.add_mod a b M256
  obtain ⟨a0, a1, a2, a3, e0, e1, e2, e3, h0, h1, h2, h3, ha⟩ := split4 a
  obtain ⟨b0, b1, b2, b3, f0, f1, f2, f3, k0, k1, k2, k3, hb⟩ := split4 b
  rw [e0, e1, e2, e3, f0, f1, f2, f3]
  rw [ha, hb] at hab
  rw [ha, hb]
  obtain ⟨s0, c0, p0, q0, r0, t0, w0⟩ := carry_step a0 b0 0 h0 k0 (by omega)
  obtain ⟨s1, c1, p1, q1, r1, t1, w1⟩ := carry_step a1 b1 c0 h1 k1 t0
  obtain ⟨s2, c2, p2, q2, r2, t2, w2⟩ := carry_step a2 b2 c1 h2 k2 t1
  obtain ⟨s3, c3, p3, q3, r3, t3, w3⟩ := carry_step a3 b3 c2 h3 k3 t2
  simp only [Int.natCast_zero] at p0 q0
  obtain ⟨m1, m2⟩ := divmod_of (A := a0 + 18446744073709551616 * a1 + 340282366920938463463374607431768211456 * a2 + 6277101735386680763835789423207666416102355444464034512896 * a3 +
    (b0 + 18446744073709551616 * b1 + 340282366920938463463374607431768211456 * b2 + 6277101735386680763835789423207666416102355444464034512896 * b3))
    (S := s0 + 2 ^ 64 * s1 + 2 ^ 128 * s2 + 2 ^ 192 * s3) (c := c3) (M := M256) (by rw [M256_eq]; omega) (by rw [M256_eq]; omega)
  rw [m1] at hab
  have hS : (s0 + 2 ^ 64 * s1 + 2 ^ 128 * s2 + 2 ^ 192 * s3) % M256 = s0 + 2 ^ 64 * s1 + 2 ^ 128 * s2 + 2 ^ 192 * s3 := Nat.mod_eq_of_lt (by rw [M256_eq]; omega)
  simp only [q0, q1, q2, q3, p0, p1, p2, p3, join, Int.toNat_natCast, and_true, hab, hS, m2]
  clear ha hb hab hS m1 m2 p0 p1 p2 p3 q0 q1 q2 q3 w0 w1 w2 w3 e0 e1 e2 e3 f0 f1 f2 f3
  refine ⟨?_, ?_, ?_, ?_, ?_, ?_, ?_, ?_, ?_, ?_, ?_, ?_, ?_, ?_, ?_, ?_⟩ <;> omega

theorem borrow_step (x y c : Nat) (hx : x < 18446744073709551616) (hy : y < 18446744073709551616) (hc : c ≤ 1) :
    ∃ s d : Nat, ((x : Int) - y - c) % 18446744073709551616 = s ∧ -(((x : Int) - y - c) / 18446744073709551616) = d ∧ s < 18446744073709551616 ∧ d ≤ 1 ∧ x + 18446744073709551616 * d = s + y + c :=
  ⟨(((x : Int) - y - c) % 18446744073709551616).toNat, (-(((x : Int) - y - c) / 18446744073709551616)).toNat, by omega, by omega, by omega, by omega, by omega⟩

theorem ok_less : ∀ a b, Owes Try.prog cxLess [] 100 Try.f38 [sU a, sU b] (lessG a b) := by
  intro a b
  rw [vc_less]
  obtain ⟨a0, a1, a2, a3, e0, e1, e2, e3, h0, h1, h2, h3, ha⟩ := split4 a
  obtain ⟨b0, b1, b2, b3, f0, f1, f2, f3, k0, k1, k2, k3, hb⟩ := split4 b
  rw [e0, e1, e2, e3, f0, f1, f2, f3, ha, hb]
  obtain ⟨s0, c0, p0, q0, r0, t0, w0⟩ := borrow_step a0 b0 0 h0 k0 (by omega)
  obtain ⟨s1, c1, p1, q1, r1, t1, w1⟩ := borrow_step a1 b1 c0 h1 k1 t0
  obtain ⟨s2, c2, p2, q2, r2, t2, w2⟩ := borrow_step a2 b2 c1 h2 k2 t1
  obtain ⟨s3, c3, p3, q3, r3, t3, w3⟩ := borrow_step a3 b3 c2 h3 k3 t2
  simp only [Int.natCast_zero] at p0 q0
  have key : a0 + 18446744073709551616 * a1 + 340282366920938463463374607431768211456 * a2 + 6277101735386680763835789423207666416102355444464034512896 * a3 + M256 * c3 =
    (s0 + 2 ^ 64 * s1 + 2 ^ 128 * s2 + 2 ^ 192 * s3) + (b0 + 18446744073709551616 * b1 + 340282366920938463463374607431768211456 * b2 + 6277101735386680763835789423207666416102355444464034512896 * b3) := by
    rw [M256_eq]; omega
  simp only [q0, q1, q2, q3, p0, p1, p2, p3, join, Int.toNat_natCast, and_true]
  generalize hA : a0 + 18446744073709551616 * a1 + 340282366920938463463374607431768211456 * a2 + 6277101735386680763835789423207666416102355444464034512896 * a3 = A at *
  generalize hB : b0 + 18446744073709551616 * b1 + 340282366920938463463374607431768211456 * b2 + 6277101735386680763835789423207666416102355444464034512896 * b3 = B at *
  have hA' : A < M256 := by rw [M256_eq]; omega
  have hB' : B < M256 := by rw [M256_eq]; omega
  have hS' : s0 + 2 ^ 64 * s1 + 2 ^ 128 * s2 + 2 ^ 192 * s3 < M256 := by rw [M256_eq]; omega
  generalize s0 + 2 ^ 64 * s1 + 2 ^ 128 * s2 + 2 ^ 192 * s3 = S at *
  rw [Nat.mod_eq_of_lt hS']
  have hc3 : c3 = 0 ∨ c3 = 1 := by omega
  have fin : S = (A + M256 - B) % M256 ∧ (c3 : Int) = if A < B then 1 else 0 := by
    rcases hc3 with rfl | rfl
    · have : ¬ A < B := by omega
      rw [if_neg this]
      refine ⟨?_, rfl⟩
      rw [show A + M256 - B = S + M256 by omega, Nat.add_mod_right, Nat.mod_eq_of_lt hS']
    · have : A < B := by omega
      rw [if_pos this]
      refine ⟨?_, rfl⟩
      rw [show A + M256 - B = S by omega, Nat.mod_eq_of_lt hS']
  obtain ⟨g1, g2⟩ := fin
  rw [← g1, ← g2]
  clear ha hb hA hB key hA' hB' hS' g1 g2 p0 p1 p2 p3 q0 q1 q2 q3 w0 w1 w2 w3 e0 e1 e2 e3 f0 f1 f2 f3
  repeat' apply And.intro
  all_goals first | rfl | omega

theorem ok_Add : ∀ a b, Owes Try.prog cxAdd [] 100 Try.f13 [sU a, sU b] (addG a b) := by
  intro a b
  rw [vc_Add]
  refine ⟨⟨rfl, trivial⟩, ?_⟩
  have hM : 0 < M256 := by decide
  have h1 := Nat.mod_lt a hM
  have h2 := Nat.mod_lt b hM
  rw [Bool.eq_iff_iff]
  simp only [bne_iff_ne, ne_eq, decide_eq_true_eq]
  by_cases h : M256 ≤ a % M256 + b % M256
  · have : (a % M256 + b % M256) / M256 ≠ 0 := by
      have := Nat.div_pos h hM
      omega
    simp only [h, iff_true]; omega
  · have : (a % M256 + b % M256) / M256 = 0 := Nat.div_eq_of_lt (by omega)
    simp [h, this]

theorem ok_Sub : ∀ a b, Owes Try.prog cxSub [] 100 Try.f14 [sU a, sU b] (subG a b) := by
  intro a b
  rw [vc_Sub]
  refine ⟨⟨rfl, trivial⟩, ?_⟩
  by_cases h : a % M256 < b % M256 <;> simp [h]

theorem ok_Cmp : ∀ a b, Owes Try.prog Cx.none [] 100 Try.f77 [sU a, sU b] (cmpG a b) := by
  intro a b
  rw [vc_Cmp]
  obtain ⟨a0, a1, a2, a3, e0, e1, e2, e3, h0, h1, h2, h3, ha⟩ := split4 a
  obtain ⟨b0, b1, b2, b3, f0, f1, f2, f3, k0, k1, k2, k3, hb⟩ := split4 b
  rw [e0, e1, e2, e3, f0, f1, f2, f3]
  simp only [cmpN, ha, hb, decide_eq_true_eq, decide_eq_false_iff_not]
  clear e0 e1 e2 e3 f0 f1 f2 f3 ha hb
  refine ⟨fun h => ?_, fun h => ⟨fun h' => ?_, fun h' => ⟨fun g => ?_, fun g => ⟨fun g' => ?_, fun g' => ⟨fun i => ?_, fun i => ⟨fun i' => ?_, fun i' => ⟨fun j => ?_, fun j => ⟨fun j' => ?_, fun j' => ?_⟩⟩⟩⟩⟩⟩⟩⟩
  all_goals
    split
    · omega
    · first
      | omega
      | (split <;> omega)

end Go.Proofs.Ytbjdchpncbgpnaa
end

section
/-
  The laws' drawn numbers, and the laws of sums: the numbers' side.
-/
namespace Go.Proofs.Ytbjdchpncbgpnaa
open Go.Sx

end Go.Proofs.Ytbjdchpncbgpnaa
end

section
/-
  Products: the numbers' side.
-/
namespace Go.Proofs.Ytbjdchpncbgpnaa
open Go.Sx

end Go.Proofs.Ytbjdchpncbgpnaa
end

section
/-
  A number taken so often as a word says, and the product of two words: the numbers' side.
-/
namespace Go.Proofs.Ytbjdchpncbgpnaa
open Go.Sx

end Go.Proofs.Ytbjdchpncbgpnaa
end

section
/-
  The product of two words, in full.
-/
namespace Go.Proofs.Ytbjdchpncbgpnaa
open Go.Sx

end Go.Proofs.Ytbjdchpncbgpnaa
end

section
/-
  The laws of products: the numbers' side.
-/
namespace Go.Proofs.Ytbjdchpncbgpnaa
open Go.Sx

end Go.Proofs.Ytbjdchpncbgpnaa
end

section
/-
  A sum is taken so often as its parts are: the numbers' side.
-/
namespace Go.Proofs.Ytbjdchpncbgpnaa
open Go.Sx

theorem halves (x y z : Nat) : x * z % M256 + y * z % M256 = (x % M256 * (z % M256)) % M256 + (y % M256 * (z % M256)) % M256 := by
  rw [Nat.mul_mod x, Nat.mul_mod y]

end Go.Proofs.Ytbjdchpncbgpnaa
end

section
/-
  The cards of package wide's functions, one upon another.
-/
namespace Go.Proofs.Ytbjdchpncbgpnaa
open Go.Sx

theorem CxOK_nil : CxOK Try.prog Cx.none := fun _ h => by cases h
theorem CxOK_cons {f : Nat} {s : FSpec} {l : List (Nat × FSpec)} {gl : Globs} (h : FnOKg Try.prog gl f s) (hs : CxOK Try.prog ⟨l, gl, 0⟩) : CxOK Try.prog ⟨(f, s) :: l, gl, 0⟩ := by
  intro p hp
  rcases List.mem_cons.1 hp with rfl | hp
  · exact h
  · exact hs p hp

theorem bnd_U (n : Nat) : SA.bnd none0 (sU n) := by
  intro k hk; simp only [List.mem_singleton] at hk; subst hk; trivial
theorem bnd_I (k : IntKind) (n : Int) : SA.bnd none0 (sI k n) := trivial
theorem bnd_B (b : Bool) : SA.bnd none0 (sB b) := trivial
theorem bnd_one {x : SA} (h : x.bnd none0) : SV.bnd none0 (.one x) := h
theorem bnd_two {x y : SA} (h : x.bnd none0) (h' : y.bnd none0) : SV.bnd none0 (.tup [x, y]) := by
  intro z hz
  simp only [List.mem_cons, List.not_mem_nil, or_false] at hz
  rcases hz with rfl | rfl
  · exact h
  · exact h'

theorem card_Add64 : FnOK Try.prog 68 specAdd64 := FnOK_add64 Try.func68 (by kernel_rfl) (by kernel_rfl) (by kernel_rfl) (by kernel_rfl)
theorem card_Sub64 : FnOK Try.prog 69 specSub64 := FnOK_sub64 Try.func69 (by kernel_rfl) (by kernel_rfl) (by kernel_rfl) (by kernel_rfl)
theorem cxok_plus : CxOK Try.prog cxPlus := CxOK_cons card_Add64 CxOK_nil
theorem card_plus : FnOK Try.prog 37 (specUU plusG) :=
  FnOK_UU cxok_plus (iv := []) (N := 100) Try.func37 (by kernel_rfl) (by kernel_rfl) (fun a b => by unfold plusG; exact bnd_two (bnd_U _) (bnd_I _ _)) ok_plus
theorem cxok_less : CxOK Try.prog cxLess := CxOK_cons card_Sub64 CxOK_nil
theorem card_less : FnOK Try.prog 38 (specUU lessG) :=
  FnOK_UU cxok_less (iv := []) (N := 100) Try.func38 (by kernel_rfl) (by kernel_rfl) (fun a b => by unfold lessG; exact bnd_two (bnd_U _) (bnd_I _ _)) ok_less
theorem cxok_Add : CxOK Try.prog cxAdd := CxOK_cons card_plus CxOK_nil
theorem card_Add : FnOK Try.prog 13 (specUU addG) :=
  FnOK_UU cxok_Add (iv := []) (N := 100) Try.func13 (by kernel_rfl) (by kernel_rfl) (fun a b => by unfold addG; exact bnd_two (bnd_U _) (bnd_B _)) ok_Add
theorem cxok_Sub : CxOK Try.prog cxSub := CxOK_cons card_less CxOK_nil
theorem card_Sub : FnOK Try.prog 14 (specUU subG) :=
  FnOK_UU cxok_Sub (iv := []) (N := 100) Try.func14 (by kernel_rfl) (by kernel_rfl) (fun a b => by unfold subG; exact bnd_two (bnd_U _) (bnd_B _)) ok_Sub
theorem card_Cmp : FnOK Try.prog 77 (specUU cmpG) :=
  FnOK_UU CxOK_nil (iv := []) (N := 100) Try.func77 (by kernel_rfl) (by kernel_rfl) (fun a b => by unfold cmpG; exact bnd_one (bnd_I _ _)) ok_Cmp
end Go.Proofs.Ytbjdchpncbgpnaa
end

section
/-
  The cards of products.
-/
namespace Go.Proofs.Ytbjdchpncbgpnaa
open Go.Sx

end Go.Proofs.Ytbjdchpncbgpnaa
end

section
/-
  The bytes of a number: the numbers' side.
-/
namespace Go.Proofs.Ytbjdchpncbgpnaa
open Go.Sx

end Go.Proofs.Ytbjdchpncbgpnaa
end

section
/-
  How many bits a word has.
-/
namespace Go.Proofs.Ytbjdchpncbgpnaa
open Go.Sx

end Go.Proofs.Ytbjdchpncbgpnaa
end
