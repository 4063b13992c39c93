/-
  A sum is taken so often as its parts are: the numbers' side.
-/
import Derived.Test.YtbkdokofapbagaaP6
namespace Go.Proofs.Ytbkdokofapbagaa
open Go.Sx

theorem spreads_mod (x y z : Nat) : (x + y) * z % M256 = (x * z + y * z) % M256 := by rw [Nat.add_mul]
theorem sum_cut (x y : Nat) : (M256 ≤ x % M256 + y % M256 → x % M256 + y % M256 = (x + y) % M256 + M256) ∧ (¬ M256 ≤ x % M256 + y % M256 → x % M256 + y % M256 = (x + y) % M256) := by
  rw [M256_eq]; omega
theorem high_sum (P Q : Nat) : (M256 ≤ P % M256 + Q % M256 → (P + Q) / M256 = P / M256 + Q / M256 + 1) ∧ (¬ M256 ≤ P % M256 + Q % M256 → (P + Q) / M256 = P / M256 + Q / M256) := by
  rw [M256_eq]; omega

theorem spreads (x y z : Nat) :
    (M256 ≤ x % M256 + y % M256 → ((x + y) % M256 * (z % M256) / M256 + z) % M256 = ((x % M256 + y % M256) * (z % M256) / M256) % M256) ∧
    (¬ M256 ≤ x % M256 + y % M256 → ((x + y) % M256 * (z % M256) / M256) % M256 = ((x % M256 + y % M256) * (z % M256) / M256) % M256) := by
  obtain ⟨c1, c2⟩ := sum_cut x y
  refine ⟨fun h => ?_, fun h => ?_⟩
  · rw [c1 h, Nat.add_mul, Nat.add_mul_div_left _ _ (by rw [M256_eq]; decide), Nat.add_mod, Nat.add_mod (_ / _) (z % M256), Nat.mod_mod]
  · rw [c2 h]
theorem halves (x y z : Nat) : x * z % M256 + y * z % M256 = (x % M256 * (z % M256)) % M256 + (y % M256 * (z % M256)) % M256 := by
  rw [Nat.mul_mod x, Nat.mul_mod y]

theorem ok_MulSpreads : ∀ k a b s k' a' b' s' k2 a2 b2 s2, i64ok k → i64ok a → i64ok b → i64ok k' → i64ok a' → i64ok b' → i64ok k2 → i64ok a2 → i64ok b2 →
    Owes Try.prog cxTurns [] 100 Try.f6 [sRaw k a b s, sRaw k' a' b' s', sRaw k2 a2 b2 s2] yes := by
  intro k a b s k' a' b' s' k2 a2 b2 s2 h1 h2 h3 h4 h5 h6 h7 h8 h9
  rw [vc_MulSpreads]
  generalize rawN k a b = x
  generalize rawN k' a' b' = y
  generalize rawN k2 a2 b2 = z
  obtain ⟨s1, s2⟩ := spreads x y z
  obtain ⟨g1, g2⟩ := high_sum (x % M256 * (z % M256)) (y % M256 * (z % M256))
  have hh := halves x y z
  have ha : (x % M256 + y % M256) * (z % M256) = x % M256 * (z % M256) + y % M256 * (z % M256) := Nat.add_mul _ _ _
  rw [ha] at s1 s2
  rw [← hh] at g1 g2
  have e1 : ((x + y) * z % M256 == (x * z + y * z) % M256) = true := beq_iff_eq.2 (spreads_mod x y z)
  intro x1 x2 x3 x4 x5 x6 x7 x8 x9 x10 x11 x12 x13
  have e1' : x8 = true := by simp only [x8, conj]; rw [show (x7 * z % M256 == (x4 + x5) % M256) = true from e1]; rfl
  refine ⟨h1, h2, h3, h4, h5, h6, h7, h8, h9, fun o => ⟨fun c => ?_, fun c => ?_⟩, fun o => ⟨fun c => ?_, fun c => ?_⟩⟩
  all_goals
    refine ⟨id, id, id, id, id, id, ?_⟩
    simp only [conj, e1', Bool.true_and]
    rw [beq_iff_eq]
  · have o' := of_decide_eq_true o
    have c' := of_decide_eq_true c
    rw [s1 o', g1 c']
  · have o' := of_decide_eq_true o
    have c' := of_decide_eq_false c
    rw [s1 o', g2 c']
  · have o' := of_decide_eq_false o
    have c' := of_decide_eq_true c
    rw [s2 o', g1 c']
  · have o' := of_decide_eq_false o
    have c' := of_decide_eq_false c
    rw [s2 o', g2 c']
end Go.Proofs.Ytbkdokofapbagaa
