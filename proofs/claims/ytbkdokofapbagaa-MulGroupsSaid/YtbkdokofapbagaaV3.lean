/-
  What the laws of orders and of triple products come to: reckoned by the kernel. (Laid by program.)
-/
import Derived.Test.YtbkdokofapbagaaV2
namespace Go.Proofs.Ytbkdokofapbagaa
open Go.Sx
set_option maxRecDepth 100000
def cxOrder : Cx := [(21, specRaw rawG), (23, specUU subG), (27, specUU cmpG), (24, spec0 yes)]
-- VC vc_OrderSubs HASH 390e1b7f30d8a9b6
theorem vc_OrderSubs (k a b : Int) (s : ByteArray) (k' a' b' : Int) (s' : ByteArray) :
    Owes Try.prog cxOrder [] 100 Try.f9 [sRaw k a b s, sRaw k' a' b' s'] yes =
    (let x1 : Nat := Go.Sx.rawN k a b % Go.Sx.M256; let x2 : Nat := Go.Sx.rawN k' a' b' % Go.Sx.M256; let x3 : Int := Go.Sx.cmpN (Go.Sx.rawN k a b) (Go.Sx.rawN k' a' b'); let x4 : Bool := Bool.true && Decidable.decide (x1 < x2) == Decidable.decide (x3 < (0 : Int)); let x5 : Nat := Go.Sx.join (0 : Int) (0 : Int) (0 : Int) (0 : Int); let x6 : Bool := x4 && Go.Sx.conj [(x1 + Go.Sx.M256 - x2) % Go.Sx.M256 == x5] == (x3 == (0 : Int)); let x7 : Bool := x6 && Go.Sx.cmpN (Go.Sx.rawN k' a' b') (Go.Sx.rawN k a b) == Go.IntKind.i64.wrap ((0 : Int) - x3); ((-9223372036854775808 : Int) ≤ k ∧ k ≤ (9223372036854775807 : Int)) ∧ ((-9223372036854775808 : Int) ≤ a ∧ a ≤ (9223372036854775807 : Int)) ∧ ((-9223372036854775808 : Int) ≤ b ∧ b ≤ (9223372036854775807 : Int)) ∧ ((-9223372036854775808 : Int) ≤ k' ∧ k' ≤ (9223372036854775807 : Int)) ∧ ((-9223372036854775808 : Int) ≤ a' ∧ a' ≤ (9223372036854775807 : Int)) ∧ ((-9223372036854775808 : Int) ≤ b' ∧ b' ≤ (9223372036854775807 : Int)) ∧ (Bool.true = Bool.true → Bool.true = Bool.true) ∧ (Bool.true = Bool.true → Bool.true = Bool.true) ∧ (Bool.true = Bool.true → Bool.true = Bool.true) ∧ (Bool.true = Bool.true → Bool.true = Bool.true) ∧ (x4 = Bool.true → x4 = Bool.true) ∧ (x4 = Bool.true → x4 = Bool.true) ∧ (x4 = Bool.true → x4 = Bool.true) ∧ (x4 = Bool.true → x4 = Bool.true) ∧ (x4 = Bool.true → x4 = Bool.true) ∧ (x4 = Bool.true → x4 = Bool.true) ∧ (x6 = Bool.true → x6 = Bool.true) ∧ (x6 = Bool.true → x6 = Bool.true) ∧ (x6 = Bool.true → x6 = Bool.true) ∧ (x6 = Bool.true → x6 = Bool.true) ∧ (x6 = Bool.true → x6 = Bool.true) ∧ (x6 = Bool.true → x6 = Bool.true) ∧ (x7 = Bool.true → x7 = Bool.true) ∧ (x7 = Bool.true → x7 = Bool.true) ∧ (x7 = Bool.true → x7 = Bool.true) ∧ (x7 = Bool.true → x7 = Bool.true) ∧ (x7 && Go.Sx.cmpN (Go.Sx.join (1 : Int) (0 : Int) (0 : Int) (0 : Int)) x5 == (1 : Int)) = Bool.true) := by kernel_rfl
-- END VC
-- VC vc_MulGroups HASH a77756108e43c452
theorem vc_MulGroups (k a b : Int) (s : ByteArray) (k' a' b' : Int) (s' : ByteArray) (k2 a2 b2 : Int) (s2 : ByteArray) :
    Owes Try.prog cxTurns [] 100 Try.f7 [sRaw k a b s, sRaw k' a' b' s', sRaw k2 a2 b2 s2] yes =
    (((-9223372036854775808 : Int) ≤ k ∧ k ≤ (9223372036854775807 : Int)) ∧ ((-9223372036854775808 : Int) ≤ a ∧ a ≤ (9223372036854775807 : Int)) ∧ ((-9223372036854775808 : Int) ≤ b ∧ b ≤ (9223372036854775807 : Int)) ∧ ((-9223372036854775808 : Int) ≤ k' ∧ k' ≤ (9223372036854775807 : Int)) ∧ ((-9223372036854775808 : Int) ≤ a' ∧ a' ≤ (9223372036854775807 : Int)) ∧ ((-9223372036854775808 : Int) ≤ b' ∧ b' ≤ (9223372036854775807 : Int)) ∧ ((-9223372036854775808 : Int) ≤ k2 ∧ k2 ≤ (9223372036854775807 : Int)) ∧ ((-9223372036854775808 : Int) ≤ a2 ∧ a2 ≤ (9223372036854775807 : Int)) ∧ ((-9223372036854775808 : Int) ≤ b2 ∧ b2 ≤ (9223372036854775807 : Int)) ∧ (Bool.true = Bool.true → Bool.true = Bool.true) ∧ (Bool.true = Bool.true → Bool.true = Bool.true) ∧ (Bool.true = Bool.true → Bool.true = Bool.true) ∧ (Bool.true && Go.Sx.conj [Go.Sx.rawN k a b * Go.Sx.rawN k' a' b' * Go.Sx.rawN k2 a2 b2 % Go.Sx.M256 == Go.Sx.rawN k a b * (Go.Sx.rawN k' a' b' * Go.Sx.rawN k2 a2 b2) % Go.Sx.M256]) = Bool.true) := by kernel_rfl
-- END VC

end Go.Proofs.Ytbkdokofapbagaa
