/-
  The laws of products: the numbers' side.
-/
import Derived.Test.YtbkdokofapbagaaP5
namespace Go.Proofs.Ytbkdokofapbagaa
open Go.Sx

theorem ok_MulTurns : ∀ k a b s k' a' b' s', i64ok k → i64ok a → i64ok b → i64ok k' → i64ok a' → i64ok b' → Owes Try.prog cxTurns [] 100 Try.f5 [sRaw k a b s, sRaw k' a' b' s'] yes := by
  intro k a b s k' a' b' s' h1 h2 h3 h4 h5 h6
  rw [vc_MulTurns]
  generalize rawN k a b = x
  generalize rawN k' a' b' = y
  have hx : x % M256 < M256 := Nat.mod_lt _ (by rw [M256_eq]; decide)
  have m0 : 0 % M256 = 0 := by rw [M256_eq]
  have e1 : (x * y % M256 == y * x % M256) = true := beq_iff_eq.2 (by rw [Nat.mul_comm])
  have e2 : (x % M256 * (y % M256) / M256 % M256 == y % M256 * (x % M256) / M256 % M256) = true := beq_iff_eq.2 (by rw [Nat.mul_comm])
  have e3 : (x * 1 % M256 == x % M256) = true := beq_iff_eq.2 (by rw [Nat.mul_one])
  have e4 : (x % M256 * 1 / M256 % M256 == 0) = true := beq_iff_eq.2 (by rw [Nat.mul_one, Nat.div_eq_of_lt hx, m0])
  have e5 : (0 * y % M256 == 0) = true := beq_iff_eq.2 (by rw [Nat.zero_mul, m0])
  have e6 : (0 * (y % M256) / M256 % M256 == 0) = true := beq_iff_eq.2 (by rw [Nat.zero_mul, Nat.zero_div, m0])
  intro x1 x2 x3 x4 x5 x6 x7
  refine ⟨h1, h2, h3, h4, h5, h6, id, id, id, id, id, id, id, id, id, id, id, id, id, id, id, id, id, id, ?_⟩
  simp only [x1, x2, x3, x4, x5, x6, x7, conj, e1, e2, e3, e4, e5, e6, Bool.and_self]
end Go.Proofs.Ytbkdokofapbagaa
