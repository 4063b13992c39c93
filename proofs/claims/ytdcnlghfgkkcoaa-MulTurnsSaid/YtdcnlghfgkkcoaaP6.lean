/-
  The laws of products: the numbers' side.
-/
import Derived.Test.YtdcnlghfgkkcoaaP5
namespace Go.Proofs.Ytdcnlghfgkkcoaa
open Go.Sx

theorem ok_MulTurns : ∀ k a b s k' a' b' s', i64ok k → i64ok a → i64ok b → i64ok k' → i64ok a' → i64ok b' → Owes Try.prog cxTurns [] 100 Try.f13 [sRaw k a b s, sRaw k' a' b' s'] yes := by
  intro k a b s k' a' b' s' h1 h2 h3 h4 h5 h6
  rw [vc_MulTurns]
  generalize rawN k a b = x
  generalize rawN k' a' b' = y
  have j1 : join 1 0 0 0 = 1 := rfl
  have j0 : join 0 0 0 0 = 0 := rfl
  rw [j1, j0]
  intro x1 x2 x3 x4
  have e1 : (x * y % M256 == y * x % M256) = true := beq_iff_eq.2 (by rw [Nat.mul_comm])
  have e2 : (x1 * x2 / M256 % M256 == x2 * x1 / M256 % M256) = true := beq_iff_eq.2 (by rw [Nat.mul_comm])
  have e3 : (x * x3 % M256 == x1) = true := beq_iff_eq.2 (by simp only [x3, x1, Nat.mul_one])
  have hx : x1 < M256 := Nat.mod_lt _ (by rw [M256_eq]; decide)
  have m1 : 1 % M256 = 1 := by rw [M256_eq]
  have m0 : 0 % M256 = 0 := by rw [M256_eq]
  have e4 : (x1 * (x3 % M256) / M256 % M256 == x4) = true := beq_iff_eq.2 (by simp only [x3, x4, m1, Nat.mul_one]; rw [Nat.div_eq_of_lt hx, m0])
  have e5 : (x4 * y % M256 == x4) = true := beq_iff_eq.2 (by simp only [x4, Nat.zero_mul, m0])
  have e6 : (x4 % M256 * x2 / M256 % M256 == x4) = true := beq_iff_eq.2 (by simp only [x4, m0, Nat.zero_mul, Nat.zero_div])
  refine ⟨h1, h2, h3, h4, h5, h6, id, id, id, id, id, id, id, id, id, id, id, id, id, id, id, id, id, id, ?_⟩
  simp only [conj, e1, e2, e3, e4, e5, e6, Bool.and_self]
end Go.Proofs.Ytdcnlghfgkkcoaa
