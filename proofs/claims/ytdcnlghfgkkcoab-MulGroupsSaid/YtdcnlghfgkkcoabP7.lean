/-
  A sum is taken so often as its parts are: the numbers' side.
-/
import Derived.Test.YtdcnlghfgkkcoabP6
namespace Go.Proofs.Ytdcnlghfgkkcoab
open Go.Sx

theorem spreads_mod (x y z : Nat) : (x + y) * z % M256 = (x * z + y * z) % M256 := by rw [Nat.add_mul]
theorem sum_cut (x y : Nat) : (M256 ≤ x % M256 + y % M256 → x % M256 + y % M256 = (x + y) % M256 + M256) ∧ (¬ M256 ≤ x % M256 + y % M256 → x % M256 + y % M256 = (x + y) % M256) := by
  rw [M256_eq]; omega
theorem high_sum (P Q : Nat) : (M256 ≤ P % M256 + Q % M256 → (P + Q) / M256 = P / M256 + Q / M256 + 1) ∧ (¬ M256 ≤ P % M256 + Q % M256 → (P + Q) / M256 = P / M256 + Q / M256) := by
  rw [M256_eq]; omega

theorem spreads (x y z : Nat) :
    (M256 ≤ x % M256 + y % M256 → ((x + y) % M256 * (z % M256) / M256 + z) % M256 = ((x % M256 + y % M256) * (z % M256) / M256) % M256) ∧
    (¬ M256 ≤ x % M256 + y % M256 → ((x + y) % M256 * (z % M256) / M256) % M256 = ((x % M256 + y % M256) * (z % M256) / M256) % M256) := by
  obtain ⟨c1, c2⟩ := sum_cut x y
  refine ⟨fun h => ?_, fun h => ?_⟩
  · rw [c1 h, Nat.add_mul, Nat.add_mul_div_left _ _ (by rw [M256_eq]; decide), Nat.add_mod, Nat.add_mod (_ / _) (z % M256), Nat.mod_mod]
  · rw [c2 h]
theorem halves (x y z : Nat) : x * z % M256 + y * z % M256 = (x % M256 * (z % M256)) % M256 + (y % M256 * (z % M256)) % M256 := by
  rw [Nat.mul_mod x, Nat.mul_mod y]

end Go.Proofs.Ytdcnlghfgkkcoab
