/-
  Products: the numbers' side.
-/
import Derived.Test.YtdcnlghfgkkcoabV2
import Derived.Test.YtdcnlghfgkkcoabP2
namespace Go.Proofs.Ytdcnlghfgkkcoab
open Go.Sx

theorem wrap_id {n : Int} (h : 0 ≤ n ∧ n < 18446744073709551616) : IntKind.u64.wrap n = n := by
  unfold IntKind.wrap
  simp [IntKind.signed, IntKind.bits]
  omega

theorem row_step (h b : Nat) (p : Int) (hh : h < M256) (hp : 0 ≤ p ∧ p < 18446744073709551616) :
    ∃ T : Nat, T = h + b % M256 * p.toNat ∧ T / 18446744073709551616 < M256 ∧ limb (h + b * p.toNat) 0 = ((T % 18446744073709551616 : Nat) : Int) ∧
      join (limb (h + b * p.toNat) 1) (limb (h + b * p.toNat) 2) (limb (h + b * p.toNat) 3) (IntKind.u64.wrap (((b % M256 * p.toNat / M256 : Nat) : Int) + (((h % M256 + b * p.toNat % M256) / M256 : Nat) : Int))) = T / 18446744073709551616 := by
  obtain ⟨q, rfl⟩ := Int.eq_ofNat_of_zero_le hp.1
  simp only [Int.toNat_natCast]
  have hq : q < 18446744073709551616 := by omega
  have hB : b % M256 < M256 := Nat.mod_lt _ (by rw [M256_eq]; decide)
  have e1 : b * q % M256 = (b % M256 * q) % M256 := by rw [Nat.mod_mul_mod]
  have e2 : (h + b * q) % M256 = (h + b % M256 * q) % M256 := by rw [Nat.add_mod, e1, ← Nat.add_mod]
  obtain ⟨f0, f1, f2, f3⟩ := limbs_eq.1 e2
  have hT : h + b % M256 * q < M256 * 18446744073709551616 := by
    have h1 : b % M256 * q ≤ (M256 - 1) * 18446744073709551615 := Nat.mul_le_mul (by omega) (by omega)
    have h2 : (M256 - 1) * 18446744073709551615 + M256 ≤ M256 * 18446744073709551616 := by rw [M256_eq]; decide
    omega
  refine ⟨_, rfl, ?_, ?_, ?_⟩
  · exact Nat.div_lt_of_lt_mul (by rw [Nat.mul_comm 18446744073709551616]; exact hT)
  · rw [f0]
    simp only [limb, Nat.mul_zero, Nat.pow_zero, Nat.div_one, Nat.reducePow]
  · rw [f1, f2, f3, e1]
    generalize hg : b % M256 * q = g at *
    have hs : (g / M256) + (h % M256 + g % M256) / M256 = (h + g) / M256 := by
      rw [Nat.mod_eq_of_lt hh]
      rw [M256_eq]; omega
    have hw : ((g / M256 : Nat) : Int) + (((h % M256 + g % M256) / M256 : Nat) : Int) = (((h + g) / M256 : Nat) : Int) := by rw [← hs]; rfl
    rw [hw, wrap_id ⟨Int.natCast_nonneg _, by
      have := Nat.div_lt_of_lt_mul hT
      exact Int.ofNat_lt.2 this⟩]
    have hl := limbs_sum (h + g)
    unfold join
    rw [limb_toNat, limb_toNat, limb_toNat, Int.toNat_natCast]
    have hd := Nat.div_add_mod (h + g) M256
    rw [hl] at hd
    clear hw hs f0 f1 f2 f3 e1 e2 hl
    rw [M256_eq] at hd ⊢
    simp only [Nat.reducePow, Nat.reduceMul] at hd ⊢
    omega


theorem rows_sum {A B p0 p1 p2 p3 T0 T1 T2 T3 : Nat} (hA : A = p0 + 18446744073709551616 * p1 + 340282366920938463463374607431768211456 * p2 + 6277101735386680763835789423207666416102355444464034512896 * p3)
    (t0 : T0 = 0 + B * p0) (t1 : T1 = T0 / 18446744073709551616 + B * p1) (t2 : T2 = T1 / 18446744073709551616 + B * p2) (t3 : T3 = T2 / 18446744073709551616 + B * p3) :
    A * B = T0 % 18446744073709551616 + 18446744073709551616 * (T1 % 18446744073709551616) + 340282366920938463463374607431768211456 * (T2 % 18446744073709551616) + 6277101735386680763835789423207666416102355444464034512896 * (T3 % 18446744073709551616) +
      M256 * (T3 / 18446744073709551616) := by
  have e : A * B = B * p0 + 18446744073709551616 * (B * p1) + 340282366920938463463374607431768211456 * (B * p2) + 6277101735386680763835789423207666416102355444464034512896 * (B * p3) := by
    rw [hA, Nat.add_mul, Nat.add_mul, Nat.add_mul, Nat.mul_assoc, Nat.mul_assoc, Nat.mul_assoc, Nat.mul_comm p0, Nat.mul_comm p1, Nat.mul_comm p2, Nat.mul_comm p3]
  rw [e, M256_eq]
  clear e hA
  omega

theorem ok_Mul : ∀ a b, Owes Try.prog cxMul2 [] 100 Try.f11 [sU a, sU b] (mulG a b) := by
  intro a b
  rw [vc_Mul]
  have hl : ∀ n i, (0 : Int) ≤ limb n i ∧ limb n i < 18446744073709551616 := fun n i => ⟨limb_nonneg n i, limb_lt n i⟩
  have hl' : ∀ n i, (0 : Int) ≤ limb n i ∧ limb n i < (2 : Int) ^ 64 := hl
  have hw : ∀ x, (0 : Int) ≤ IntKind.u64.wrap x ∧ IntKind.u64.wrap x < (2 : Int) ^ 64 := w64_range
  have j0 : join 0 0 0 0 = 0 := rfl
  obtain ⟨T0, t0, b0, l0, r0⟩ := row_step (join 0 0 0 0) b (limb a 0) (by rw [j0, M256_eq]; decide) (hl a 0)
  obtain ⟨T1, t1, b1, l1, r1⟩ := row_step (T0 / 18446744073709551616) b (limb a 1) b0 (hl a 1)
  obtain ⟨T2, t2, b2, l2, r2⟩ := row_step (T1 / 18446744073709551616) b (limb a 2) b1 (hl a 2)
  obtain ⟨T3, t3, b3, l3, r3⟩ := row_step (T2 / 18446744073709551616) b (limb a 3) b2 (hl a 3)
  rw [j0] at t0
  rw [← r0] at l1 r1
  rw [← r1] at l2 r2
  rw [← r2] at l3 r3
  refine ⟨hl _ _, hl _ _, hl' _ _, hl' _ _, hl' _ _, hw _, hl _ _, hl' _ _, hl' _ _, hl' _ _, hw _, hl _ _, hl' _ _, hl' _ _, hl' _ _, hw _, ⟨hl' _ _, hl' _ _, hl' _ _, hl' _ _, ?_, trivial⟩, hl' _ _, hl' _ _, hl' _ _, hw _, ?_, trivial⟩
  all_goals
    have hs := limbs_sum a
    have hm := Nat.mul_mod a b M256
    rw [limb_toNat] at t0 t1 t2 t3
    simp only [Nat.mul_zero, Nat.pow_zero, Nat.div_one, Nat.mul_one, Nat.reduceMul, Nat.reducePow] at t0 t1 t2 t3 hs
    have hr := rows_sum hs t0 t1 t2 t3
    have hlt : T0 % 18446744073709551616 + 18446744073709551616 * (T1 % 18446744073709551616) + 340282366920938463463374607431768211456 * (T2 % 18446744073709551616) + 6277101735386680763835789423207666416102355444464034512896 * (T3 % 18446744073709551616) < M256 := by
      rw [M256_eq]; omega
  · rw [l0, l1, l2, l3, hm, hr, Nat.add_mul_mod_self_left]
    rfl
  · rw [r3, hr, Nat.add_mul_div_left _ _ (by rw [M256_eq]; decide), Nat.div_eq_of_lt hlt, Nat.zero_add]
end Go.Proofs.Ytdcnlghfgkkcoab
