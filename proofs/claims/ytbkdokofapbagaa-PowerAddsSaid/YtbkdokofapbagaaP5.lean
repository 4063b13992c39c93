/-
  The product of two words, in full.
-/
import Derived.Test.YtbkdokofapbagaaP4
import Derived.Lib.Mul64
namespace Go.Proofs.Ytbkdokofapbagaa
open Go.Sx

theorem and_low (p : Nat) (hp : p < 18446744073709551616) : (BitVec.ofInt 64 (p : Int) &&& BitVec.ofInt 64 (4294967295 : Int)).toNat = p % 4294967296 := by
  have h1 : (BitVec.ofInt 64 (p : Int)).toNat = p := by
    rw [BitVec.toNat_ofInt]
    omega
  have h2 : (BitVec.ofInt 64 (4294967295 : Int)).toNat = 2 ^ 32 - 1 := by decide
  rw [BitVec.toNat_and, h1, h2, Nat.and_two_pow_sub_one_eq_mod]

theorem fdiv_low (p : Nat) : (p : Int).fdiv 4294967296 = ((p / 4294967296 : Nat) : Int) := by
  rw [Int.fdiv_eq_ediv_of_nonneg _ (show (0 : Int) ≤ 4294967296 by decide)]; rfl
theorem wrap_nat {n : Nat} (h : n < 18446744073709551616) : IntKind.u64.wrap (n : Int) = n := wrap_id ⟨Int.natCast_nonneg _, Int.ofNat_lt.2 h⟩

theorem ok_Mul64 : ∀ a b, w64ok a → w64ok b → Owes Try.prog [] [] 100 Try.f46 [sI .u64 a, sI .u64 b] (mul64G a b) := by
  intro a b ha hb
  rw [vc_Mul64]
  obtain ⟨p, rfl⟩ := Int.eq_ofNat_of_zero_le ha.1
  obtain ⟨q, rfl⟩ := Int.eq_ofNat_of_zero_le hb.1
  have hp : p < 18446744073709551616 := Int.ofNat_lt.1 ha.2
  have hq : q < 18446744073709551616 := Int.ofNat_lt.1 hb.2
  intro x1 x2 x3
  have e1 : x1 = ((q % 4294967296 : Nat) : Int) := by simp only [x1]; rw [and_low q hq]; exact wrap_nat (by omega)
  obtain ⟨m1, m2, m3, m4⟩ := Lib.mul64_hi p q hp hq
  have e2 : x2 = (((p / 4294967296) * (q % 4294967296) + (p % 4294967296) * (q % 4294967296) / 4294967296 : Nat) : Int) := by
    simp only [x2, e1]
    rw [fdiv_low, and_low p hp, wrap_nat (show p % 4294967296 < 18446744073709551616 by omega), ← Int.natCast_mul, ← Int.natCast_mul, wrap_nat m1, fdiv_low]
    have : (p / 4294967296) * (q % 4294967296) < 18446744073709551616 := Nat.lt_of_le_of_lt (Nat.le_add_right _ _) m2
    rw [wrap_nat this, ← Int.natCast_add, wrap_nat m2]
  have e3 : x3 = ((p * q : Nat) : Int) := (Int.natCast_mul p q).symm
  have hpq : p * q / 18446744073709551616 < 18446744073709551616 := by
    have : p * q ≤ 18446744073709551615 * 18446744073709551615 := Nat.mul_le_mul (by omega) (by omega)
    omega
  clear_value x3 x2 x1
  subst e1 e2 e3
  constructor
  · rw [fdiv_low, fdiv_low, fdiv_low, and_low p hp, and_low _ m2, wrap_nat (show p % 4294967296 < 18446744073709551616 by omega), ← Int.natCast_mul, ← Int.natCast_mul]
    have k1 : (p / 4294967296) * (q / 4294967296) < 18446744073709551616 := by rw [← m4] at hpq; omega
    have k2 : (p % 4294967296) * (q / 4294967296) < 18446744073709551616 := Nat.lt_of_le_of_lt (Nat.le_add_left _ _) m3
    rw [wrap_nat k1, wrap_nat k2, wrap_nat (show _ % 4294967296 < 18446744073709551616 by omega), ← Int.natCast_add, ← Int.natCast_add, wrap_nat m3, fdiv_low]
    have k3 : (p / 4294967296) * (q / 4294967296) + ((p / 4294967296) * (q % 4294967296) + (p % 4294967296) * (q % 4294967296) / 4294967296) / 4294967296 < 18446744073709551616 := by rw [← m4] at hpq; exact Nat.lt_of_le_of_lt (Nat.le_add_right _ _) hpq
    rw [wrap_nat k3, ← Int.natCast_add, m4, wrap_nat hpq]
    rfl
  · unfold IntKind.wrap
    simp [IntKind.signed, IntKind.bits]
end Go.Proofs.Ytbkdokofapbagaa
