/-
  A number taken so often as a word says, and the product of two words: the numbers' side.
-/
import Derived.Test.YtbkdokofapbagaaP3
namespace Go.Proofs.Ytbkdokofapbagaa
open Go.Sx

theorem times_step (l n c : Nat) (hl : l < 18446744073709551616) (hn : n < 18446744073709551616) (hc : c < 18446744073709551616) :
    ∃ s d : Nat, ((l : Int) * n % 18446744073709551616 + c + 0) % 18446744073709551616 = s ∧ IntKind.u64.wrap ((l : Int) * n / 18446744073709551616 + ((l : Int) * n % 18446744073709551616 + c + 0) / 18446744073709551616) = d ∧
      s < 18446744073709551616 ∧ d < 18446744073709551616 ∧ l * n + c = s + 18446744073709551616 * d := by
  have hm : l * n ≤ 18446744073709551615 * 18446744073709551615 := Nat.mul_le_mul (by omega) (by omega)
  have e : (l : Int) * n = ((l * n : Nat) : Int) := (Int.natCast_mul l n).symm
  rw [e]
  generalize l * n = g at *
  refine ⟨(g + c) % 18446744073709551616, (g + c) / 18446744073709551616, by omega, ?_, by omega, by omega, by omega⟩
  rw [wrap_id (by omega)]
  omega

theorem ok_times : ∀ a n, 0 ≤ n ∧ n < 18446744073709551616 → Owes Try.prog cxTimes2 [] 100 Try.f51 [sU a, sI .u64 n] (timesG a n) := by
  intro a n hn
  rw [vc_times]
  obtain ⟨q, rfl⟩ := Int.eq_ofNat_of_zero_le hn.1
  have hq : q < 18446744073709551616 := by omega
  intro x1 x2 x3 x4 x5 x6 x7 x8 x9 x10 x11 x12 x13 x14 x15 x16 x17 x18 x19
  obtain ⟨a0, a1, a2, a3, e0, e1, e2, e3, h0, h1, h2, h3, ha⟩ := split4 a
  obtain ⟨s0, d0, p0, q0, r0, t0, w0⟩ := times_step a0 q 0 h0 hq (by omega)
  obtain ⟨s1, d1, p1, q1, r1, t1, w1⟩ := times_step a1 q d0 h1 hq t0
  obtain ⟨s2, d2, p2, q2, r2, t2, w2⟩ := times_step a2 q d1 h2 hq t1
  obtain ⟨s3, d3, p3, q3, r3, t3, w3⟩ := times_step a3 q d2 h3 hq t2
  have m15 : x15 = s0 := by simp only [x15, x5, x2, x1, e0]; exact p0
  have m6 : x6 = d0 := by simp only [x6, x5, x2, x1, e0]; exact q0
  have m17 : x16 = s1 := by simp only [x16, x9, x4, x3, m6, e1]; exact p1
  have m10 : x10 = d1 := by simp only [x10, x9, x4, x3, m6, e1]; exact q1
  have m18 : x17 = s2 := by simp only [x17, x13, x8, x7, m10, e2]; exact p2
  have m14 : x14 = d2 := by simp only [x14, x13, x8, x7, m10, e2]; exact q2
  have m20 : x19 = s3 := by simp only [x19, x18, x12, x11, m14, e3]; exact p3
  have m21 : IntKind.u64.wrap (x11 / 18446744073709551616 + x18 / 18446744073709551616) = d3 := by simp only [x18, x12, x11, m14, e3]; exact q3
  have n2 : 0 ≤ x2 := Int.emod_nonneg _ (by decide)
  have n4 : 0 ≤ x4 := Int.emod_nonneg _ (by decide)
  have n8 : 0 ≤ x8 := Int.emod_nonneg _ (by decide)
  have n12 : 0 ≤ x12 := Int.emod_nonneg _ (by decide)
  clear_value x19 x18 x17 x16 x15 x14 x13 x12 x11 x10 x9 x8 x7 x6 x5 x4 x3 x2 x1
  have key : a % M256 * q = s0 + 18446744073709551616 * s1 + 340282366920938463463374607431768211456 * s2 + 6277101735386680763835789423207666416102355444464034512896 * s3 + M256 * d3 := by
    have e : a % M256 * q = a0 * q + 18446744073709551616 * (a1 * q) + 340282366920938463463374607431768211456 * (a2 * q) + 6277101735386680763835789423207666416102355444464034512896 * (a3 * q) := by
      rw [ha, Nat.add_mul, Nat.add_mul, Nat.add_mul, Nat.mul_assoc, Nat.mul_assoc, Nat.mul_assoc]
    rw [e, M256_eq]
    generalize a0 * q = g0 at *
    generalize a1 * q = g1 at *
    generalize a2 * q = g2 at *
    generalize a3 * q = g3 at *
    omega
  have hlt : s0 + 18446744073709551616 * s1 + 340282366920938463463374607431768211456 * s2 + 6277101735386680763835789423207666416102355444464034512896 * s3 < M256 := by
    rw [M256_eq]; omega
  have hmod : a * q % M256 = (a % M256 * q) % M256 := by rw [Nat.mod_mul_mod]
  rw [m21, m15, m17, m18, m20, m6, m10, m14, e0, e1, e2, e3]
  simp only [Int.toNat_natCast]
  refine ⟨by omega, by omega, n2, by omega, by omega, by omega, by omega, n4, by omega, by omega, by omega, by omega, n8, by omega, by omega, by omega, by omega, n12, by omega, by omega, ⟨by omega, by omega, by omega, by omega, ?_, trivial⟩, ?_⟩
  · rw [hmod, key, Nat.add_mul_mod_self_left]
    rfl
  · rw [key, Nat.add_mul_div_left _ _ (by rw [M256_eq]; decide), Nat.div_eq_of_lt hlt, Nat.zero_add]
end Go.Proofs.Ytbkdokofapbagaa
