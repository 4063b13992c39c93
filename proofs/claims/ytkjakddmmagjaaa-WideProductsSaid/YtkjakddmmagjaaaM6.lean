/-
  Texts: V18, P1, P2, P3, P4, P5, P6, P7, C1, C2, P49, P50, P51.
-/
import Derived.Test.YtkjakddmmagjaaaM1
import Derived.Test.YtkjakddmmagjaaaM2
import Derived.Test.YtkjakddmmagjaaaM3
import Derived.Test.YtkjakddmmagjaaaM4
import Derived.Test.YtkjakddmmagjaaaM5
import Derived.Lib.Mul64
section
/-
  Laws of package wide against the document's answers: reckoned by the kernel. (Laid by program.)
-/
namespace Go.Proofs.Ytkjakddmmagjaaa
open Go.Sx
set_option maxRecDepth 100000
def cxWO : Cx := [(13, specUU cmpG)]
-- VC vc_WideOrders HASH 2ece0abf31be6711
theorem vc_WideOrders (a b : Nat) :
    Owes Try.prog cxWO [] 100 Try.f5 [sU a, sU b] yes =
    (let x1 : Int := Go.IntKind.u64.wrap ((Go.Sx.limb a (3 : Nat)).tdiv (4294967296 : Int)); let x2 : Int := Go.IntKind.u64.wrap ((Go.Sx.limb b (3 : Nat)).tdiv (4294967296 : Int)); let x3 : Int := (Go.Sx.limb a (3 : Nat)).tmod (4294967296 : Int); let x4 : Int := (Go.Sx.limb b (3 : Nat)).tmod (4294967296 : Int); let x5 : Int := Go.IntKind.u64.wrap ((Go.Sx.limb a (2 : Nat)).tdiv (4294967296 : Int)); let x6 : Int := Go.IntKind.u64.wrap ((Go.Sx.limb b (2 : Nat)).tdiv (4294967296 : Int)); let x7 : Int := (Go.Sx.limb a (2 : Nat)).tmod (4294967296 : Int); let x8 : Int := (Go.Sx.limb b (2 : Nat)).tmod (4294967296 : Int); let x9 : Int := Go.IntKind.u64.wrap ((Go.Sx.limb a (1 : Nat)).tdiv (4294967296 : Int)); let x10 : Int := Go.IntKind.u64.wrap ((Go.Sx.limb b (1 : Nat)).tdiv (4294967296 : Int)); let x11 : Int := (Go.Sx.limb a (1 : Nat)).tmod (4294967296 : Int); let x12 : Int := (Go.Sx.limb b (1 : Nat)).tmod (4294967296 : Int); let x13 : Int := Go.IntKind.u64.wrap ((Go.Sx.limb a (0 : Nat)).tdiv (4294967296 : Int)); let x14 : Int := Go.IntKind.u64.wrap ((Go.Sx.limb b (0 : Nat)).tdiv (4294967296 : Int)); let x15 : Int := (Go.Sx.limb a (0 : Nat)).tmod (4294967296 : Int); let x16 : Int := (Go.Sx.limb b (0 : Nat)).tmod (4294967296 : Int); ((∀ (c : Nat), (2 : Nat) + c ≤ Go.maxLen → ((2 : Nat) ≤ (2 : Nat) + c ∧ (2 : Nat) + c ≤ Go.maxLen ∧ ((2 : Nat) + c) * (1 : Nat) = (2 : Nat) + c * (1 : Nat)) ∧ ∀ (c : Nat), (4 : Nat) + c ≤ Go.maxLen → ((4 : Nat) ≤ (4 : Nat) + c ∧ (4 : Nat) + c ≤ Go.maxLen ∧ ((4 : Nat) + c) * (1 : Nat) = (4 : Nat) + c * (1 : Nat)) ∧ ∀ (c : Nat), (6 : Nat) + c ≤ Go.maxLen → ((6 : Nat) ≤ (6 : Nat) + c ∧ (6 : Nat) + c ≤ Go.maxLen ∧ ((6 : Nat) + c) * (1 : Nat) = (6 : Nat) + c * (1 : Nat)) ∧ ∀ (c : Nat), (8 : Nat) + c ≤ Go.maxLen → ∀ (c : Nat), (2 : Nat) + c ≤ Go.maxLen → ((2 : Nat) ≤ (2 : Nat) + c ∧ (2 : Nat) + c ≤ Go.maxLen ∧ ((2 : Nat) + c) * (1 : Nat) = (2 : Nat) + c * (1 : Nat)) ∧ ∀ (c : Nat), (4 : Nat) + c ≤ Go.maxLen → ((4 : Nat) ≤ (4 : Nat) + c ∧ (4 : Nat) + c ≤ Go.maxLen ∧ ((4 : Nat) + c) * (1 : Nat) = (4 : Nat) + c * (1 : Nat)) ∧ ∀ (c : Nat), (6 : Nat) + c ≤ Go.maxLen → ((6 : Nat) ≤ (6 : Nat) + c ∧ (6 : Nat) + c ≤ Go.maxLen ∧ ((6 : Nat) + c) * (1 : Nat) = (6 : Nat) + c * (1 : Nat)) ∧ ∀ (c : Nat), (8 : Nat) + c ≤ Go.maxLen → (Decidable.decide (x1 < x2) = Bool.true → (Go.Sx.cmpN a b == (-1 : Int)) = Bool.true) ∧ (Decidable.decide (x1 < x2) = Bool.false → (Decidable.decide (x1 > x2) = Bool.true → (Go.Sx.cmpN a b == (1 : Int)) = Bool.true) ∧ (Decidable.decide (x1 > x2) = Bool.false → (Decidable.decide (x3 < x4) = Bool.true → (Go.Sx.cmpN a b == (-1 : Int)) = Bool.true) ∧ (Decidable.decide (x3 < x4) = Bool.false → (Decidable.decide (x3 > x4) = Bool.true → (Go.Sx.cmpN a b == (1 : Int)) = Bool.true) ∧ (Decidable.decide (x3 > x4) = Bool.false → (Decidable.decide (x5 < x6) = Bool.true → (Go.Sx.cmpN a b == (-1 : Int)) = Bool.true) ∧ (Decidable.decide (x5 < x6) = Bool.false → (Decidable.decide (x5 > x6) = Bool.true → (Go.Sx.cmpN a b == (1 : Int)) = Bool.true) ∧ (Decidable.decide (x5 > x6) = Bool.false → (Decidable.decide (x7 < x8) = Bool.true → (Go.Sx.cmpN a b == (-1 : Int)) = Bool.true) ∧ (Decidable.decide (x7 < x8) = Bool.false → (Decidable.decide (x7 > x8) = Bool.true → (Go.Sx.cmpN a b == (1 : Int)) = Bool.true) ∧ (Decidable.decide (x7 > x8) = Bool.false → (Decidable.decide (x9 < x10) = Bool.true → (Go.Sx.cmpN a b == (-1 : Int)) = Bool.true) ∧ (Decidable.decide (x9 < x10) = Bool.false → (Decidable.decide (x9 > x10) = Bool.true → (Go.Sx.cmpN a b == (1 : Int)) = Bool.true) ∧ (Decidable.decide (x9 > x10) = Bool.false → (Decidable.decide (x11 < x12) = Bool.true → (Go.Sx.cmpN a b == (-1 : Int)) = Bool.true) ∧ (Decidable.decide (x11 < x12) = Bool.false → (Decidable.decide (x11 > x12) = Bool.true → (Go.Sx.cmpN a b == (1 : Int)) = Bool.true) ∧ (Decidable.decide (x11 > x12) = Bool.false → (Decidable.decide (x13 < x14) = Bool.true → (Go.Sx.cmpN a b == (-1 : Int)) = Bool.true) ∧ (Decidable.decide (x13 < x14) = Bool.false → (Decidable.decide (x13 > x14) = Bool.true → (Go.Sx.cmpN a b == (1 : Int)) = Bool.true) ∧ (Decidable.decide (x13 > x14) = Bool.false → (Decidable.decide (x15 < x16) = Bool.true → (Go.Sx.cmpN a b == (-1 : Int)) = Bool.true) ∧ (Decidable.decide (x15 < x16) = Bool.false → (Decidable.decide (x15 > x16) = Bool.true → (Go.Sx.cmpN a b == (1 : Int)) = Bool.true) ∧ (Decidable.decide (x15 > x16) = Bool.false → (Go.Sx.cmpN a b == (0 : Int)) = Bool.true))))))))))))))))) ∧ ∀ (c : Nat), (2 : Nat) + c ≤ Go.maxLen → ((2 : Nat) ≤ (2 : Nat) + c ∧ (2 : Nat) + c ≤ Go.maxLen ∧ ((2 : Nat) + c) * (1 : Nat) = (2 : Nat) + c * (1 : Nat)) ∧ ∀ (c : Nat), (4 : Nat) + c ≤ Go.maxLen → ((4 : Nat) ≤ (4 : Nat) + c ∧ (4 : Nat) + c ≤ Go.maxLen ∧ ((4 : Nat) + c) * (1 : Nat) = (4 : Nat) + c * (1 : Nat)) ∧ ∀ (c : Nat), (6 : Nat) + c ≤ Go.maxLen → ((6 : Nat) ≤ (6 : Nat) + c ∧ (6 : Nat) + c ≤ Go.maxLen ∧ ((6 : Nat) + c) * (1 : Nat) = (6 : Nat) + c * (1 : Nat)) ∧ ∀ (c : Nat), (8 : Nat) + c ≤ Go.maxLen → ∀ (c : Nat), (2 : Nat) + c ≤ Go.maxLen → ((2 : Nat) ≤ (2 : Nat) + c ∧ (2 : Nat) + c ≤ Go.maxLen ∧ ((2 : Nat) + c) * (1 : Nat) = (2 : Nat) + c * (1 : Nat)) ∧ ∀ (c : Nat), (4 : Nat) + c ≤ Go.maxLen → ((4 : Nat) ≤ (4 : Nat) + c ∧ (4 : Nat) + c ≤ Go.maxLen ∧ ((4 : Nat) + c) * (1 : Nat) = (4 : Nat) + c * (1 : Nat)) ∧ ∀ (c : Nat), (6 : Nat) + c ≤ Go.maxLen → ((6 : Nat) ≤ (6 : Nat) + c ∧ (6 : Nat) + c ≤ Go.maxLen ∧ ((6 : Nat) + c) * (1 : Nat) = (6 : Nat) + c * (1 : Nat)) ∧ ∀ (c : Nat), (8 : Nat) + c ≤ Go.maxLen → (Decidable.decide (x1 < x2) = Bool.true → (Go.Sx.cmpN a b == (-1 : Int)) = Bool.true) ∧ (Decidable.decide (x1 < x2) = Bool.false → (Decidable.decide (x1 > x2) = Bool.true → (Go.Sx.cmpN a b == (1 : Int)) = Bool.true) ∧ (Decidable.decide (x1 > x2) = Bool.false → (Decidable.decide (x3 < x4) = Bool.true → (Go.Sx.cmpN a b == (-1 : Int)) = Bool.true) ∧ (Decidable.decide (x3 < x4) = Bool.false → (Decidable.decide (x3 > x4) = Bool.true → (Go.Sx.cmpN a b == (1 : Int)) = Bool.true) ∧ (Decidable.decide (x3 > x4) = Bool.false → (Decidable.decide (x5 < x6) = Bool.true → (Go.Sx.cmpN a b == (-1 : Int)) = Bool.true) ∧ (Decidable.decide (x5 < x6) = Bool.false → (Decidable.decide (x5 > x6) = Bool.true → (Go.Sx.cmpN a b == (1 : Int)) = Bool.true) ∧ (Decidable.decide (x5 > x6) = Bool.false → (Decidable.decide (x7 < x8) = Bool.true → (Go.Sx.cmpN a b == (-1 : Int)) = Bool.true) ∧ (Decidable.decide (x7 < x8) = Bool.false → (Decidable.decide (x7 > x8) = Bool.true → (Go.Sx.cmpN a b == (1 : Int)) = Bool.true) ∧ (Decidable.decide (x7 > x8) = Bool.false → (Decidable.decide (x9 < x10) = Bool.true → (Go.Sx.cmpN a b == (-1 : Int)) = Bool.true) ∧ (Decidable.decide (x9 < x10) = Bool.false → (Decidable.decide (x9 > x10) = Bool.true → (Go.Sx.cmpN a b == (1 : Int)) = Bool.true) ∧ (Decidable.decide (x9 > x10) = Bool.false → (Decidable.decide (x11 < x12) = Bool.true → (Go.Sx.cmpN a b == (-1 : Int)) = Bool.true) ∧ (Decidable.decide (x11 < x12) = Bool.false → (Decidable.decide (x11 > x12) = Bool.true → (Go.Sx.cmpN a b == (1 : Int)) = Bool.true) ∧ (Decidable.decide (x11 > x12) = Bool.false → (Decidable.decide (x13 < x14) = Bool.true → (Go.Sx.cmpN a b == (-1 : Int)) = Bool.true) ∧ (Decidable.decide (x13 < x14) = Bool.false → (Decidable.decide (x13 > x14) = Bool.true → (Go.Sx.cmpN a b == (1 : Int)) = Bool.true) ∧ (Decidable.decide (x13 > x14) = Bool.false → (Decidable.decide (x15 < x16) = Bool.true → (Go.Sx.cmpN a b == (-1 : Int)) = Bool.true) ∧ (Decidable.decide (x15 < x16) = Bool.false → (Decidable.decide (x15 > x16) = Bool.true → (Go.Sx.cmpN a b == (1 : Int)) = Bool.true) ∧ (Decidable.decide (x15 > x16) = Bool.false → (Go.Sx.cmpN a b == (0 : Int)) = Bool.true))))))))))))))))) ∧ ∀ (c : Nat), (2 : Nat) + c ≤ Go.maxLen → ((2 : Nat) ≤ (2 : Nat) + c ∧ (2 : Nat) + c ≤ Go.maxLen ∧ ((2 : Nat) + c) * (1 : Nat) = (2 : Nat) + c * (1 : Nat)) ∧ ∀ (c : Nat), (4 : Nat) + c ≤ Go.maxLen → ((4 : Nat) ≤ (4 : Nat) + c ∧ (4 : Nat) + c ≤ Go.maxLen ∧ ((4 : Nat) + c) * (1 : Nat) = (4 : Nat) + c * (1 : Nat)) ∧ ∀ (c : Nat), (6 : Nat) + c ≤ Go.maxLen → ((6 : Nat) ≤ (6 : Nat) + c ∧ (6 : Nat) + c ≤ Go.maxLen ∧ ((6 : Nat) + c) * (1 : Nat) = (6 : Nat) + c * (1 : Nat)) ∧ ∀ (c : Nat), (8 : Nat) + c ≤ Go.maxLen → ∀ (c : Nat), (2 : Nat) + c ≤ Go.maxLen → ((2 : Nat) ≤ (2 : Nat) + c ∧ (2 : Nat) + c ≤ Go.maxLen ∧ ((2 : Nat) + c) * (1 : Nat) = (2 : Nat) + c * (1 : Nat)) ∧ ∀ (c : Nat), (4 : Nat) + c ≤ Go.maxLen → ((4 : Nat) ≤ (4 : Nat) + c ∧ (4 : Nat) + c ≤ Go.maxLen ∧ ((4 : Nat) + c) * (1 : Nat) = (4 : Nat) + c * (1 : Nat)) ∧ ∀ (c : Nat), (6 : Nat) + c ≤ Go.maxLen → ((6 : Nat) ≤ (6 : Nat) + c ∧ (6 : Nat) + c ≤ Go.maxLen ∧ ((6 : Nat) + c) * (1 : Nat) = (6 : Nat) + c * (1 : Nat)) ∧ ∀ (c : Nat), (8 : Nat) + c ≤ Go.maxLen → (Decidable.decide (x1 < x2) = Bool.true → (Go.Sx.cmpN a b == (-1 : Int)) = Bool.true) ∧ (Decidable.decide (x1 < x2) = Bool.false → (Decidable.decide (x1 > x2) = Bool.true → (Go.Sx.cmpN a b == (1 : Int)) = Bool.true) ∧ (Decidable.decide (x1 > x2) = Bool.false → (Decidable.decide (x3 < x4) = Bool.true → (Go.Sx.cmpN a b == (-1 : Int)) = Bool.true) ∧ (Decidable.decide (x3 < x4) = Bool.false → (Decidable.decide (x3 > x4) = Bool.true → (Go.Sx.cmpN a b == (1 : Int)) = Bool.true) ∧ (Decidable.decide (x3 > x4) = Bool.false → (Decidable.decide (x5 < x6) = Bool.true → (Go.Sx.cmpN a b == (-1 : Int)) = Bool.true) ∧ (Decidable.decide (x5 < x6) = Bool.false → (Decidable.decide (x5 > x6) = Bool.true → (Go.Sx.cmpN a b == (1 : Int)) = Bool.true) ∧ (Decidable.decide (x5 > x6) = Bool.false → (Decidable.decide (x7 < x8) = Bool.true → (Go.Sx.cmpN a b == (-1 : Int)) = Bool.true) ∧ (Decidable.decide (x7 < x8) = Bool.false → (Decidable.decide (x7 > x8) = Bool.true → (Go.Sx.cmpN a b == (1 : Int)) = Bool.true) ∧ (Decidable.decide (x7 > x8) = Bool.false → (Decidable.decide (x9 < x10) = Bool.true → (Go.Sx.cmpN a b == (-1 : Int)) = Bool.true) ∧ (Decidable.decide (x9 < x10) = Bool.false → (Decidable.decide (x9 > x10) = Bool.true → (Go.Sx.cmpN a b == (1 : Int)) = Bool.true) ∧ (Decidable.decide (x9 > x10) = Bool.false → (Decidable.decide (x11 < x12) = Bool.true → (Go.Sx.cmpN a b == (-1 : Int)) = Bool.true) ∧ (Decidable.decide (x11 < x12) = Bool.false → (Decidable.decide (x11 > x12) = Bool.true → (Go.Sx.cmpN a b == (1 : Int)) = Bool.true) ∧ (Decidable.decide (x11 > x12) = Bool.false → (Decidable.decide (x13 < x14) = Bool.true → (Go.Sx.cmpN a b == (-1 : Int)) = Bool.true) ∧ (Decidable.decide (x13 < x14) = Bool.false → (Decidable.decide (x13 > x14) = Bool.true → (Go.Sx.cmpN a b == (1 : Int)) = Bool.true) ∧ (Decidable.decide (x13 > x14) = Bool.false → (Decidable.decide (x15 < x16) = Bool.true → (Go.Sx.cmpN a b == (-1 : Int)) = Bool.true) ∧ (Decidable.decide (x15 < x16) = Bool.false → (Decidable.decide (x15 > x16) = Bool.true → (Go.Sx.cmpN a b == (1 : Int)) = Bool.true) ∧ (Decidable.decide (x15 > x16) = Bool.false → (Go.Sx.cmpN a b == (0 : Int)) = Bool.true))))))))))))))))) := by kernel_rfl
-- END VC

end Go.Proofs.Ytkjakddmmagjaaa
end

section
/-
  Package wide's functions, each held to its card: the numbers' side.
-/
namespace Go.Proofs.Ytkjakddmmagjaaa
open Go.Sx

theorem split4 (n : Nat) : ∃ a b c d : Nat, limb n 0 = a ∧ limb n 1 = b ∧ limb n 2 = c ∧ limb n 3 = d ∧ a < 18446744073709551616 ∧ b < 18446744073709551616 ∧ c < 18446744073709551616 ∧ d < 18446744073709551616 ∧
    n % M256 = a + 18446744073709551616 * b + 340282366920938463463374607431768211456 * c + 6277101735386680763835789423207666416102355444464034512896 * d := by
  refine ⟨n / 2 ^ (64 * 0) % 2 ^ 64, n / 2 ^ (64 * 1) % 2 ^ 64, n / 2 ^ (64 * 2) % 2 ^ 64, n / 2 ^ (64 * 3) % 2 ^ 64, rfl, rfl, rfl, rfl, Nat.mod_lt _ (by decide), Nat.mod_lt _ (by decide), Nat.mod_lt _ (by decide), Nat.mod_lt _ (by decide), ?_⟩
  rw [limbs_sum]
  simp only [Nat.mul_zero, Nat.pow_zero, Nat.div_one, Nat.mul_one, Nat.reduceMul, Nat.reducePow]

theorem M256_eq : M256 = 115792089237316195423570985008687907853269984665640564039457584007913129639936 := by decide

theorem carry_step (x y c : Nat) (hx : x < 18446744073709551616) (hy : y < 18446744073709551616) (hc : c ≤ 1) :
    ∃ s d : Nat, ((x : Int) + y + c) % 18446744073709551616 = s ∧ ((x : Int) + y + c) / 18446744073709551616 = d ∧ s < 18446744073709551616 ∧ d ≤ 1 ∧ x + y + c = s + 18446744073709551616 * d :=
  ⟨(x + y + c) % 18446744073709551616, (x + y + c) / 18446744073709551616, by omega, by omega, by omega, by omega, by omega⟩

theorem divmod_of {A S c M : Nat} (h : A = S + M * c) (hS : S < M) : A % M = S ∧ A / M = c := by
  subst h
  rw [Nat.add_mul_mod_self_left, Nat.mod_eq_of_lt hS, Nat.add_mul_div_left _ _ (by omega), Nat.div_eq_of_lt hS]
  exact ⟨rfl, by omega⟩

theorem ok_plus : ∀ a b, Owes Try.prog cxPlus [] 100 Try.f19 [sU a, sU b] (plusG a b) := by
  intro a b
  rw [vc_plus]
  have hab := Nat.add_mod a b M256
  obtain ⟨a0, a1, a2, a3, e0, e1, e2, e3, h0, h1, h2, h3, ha⟩ := split4 a
  obtain ⟨b0, b1, b2, b3, f0, f1, f2, f3, k0, k1, k2, k3, hb⟩ := split4 b
  rw [e0, e1, e2, e3, f0, f1, f2, f3]
  rw [ha, hb] at hab
  rw [ha, hb]
  obtain ⟨s0, c0, p0, q0, r0, t0, w0⟩ := carry_step a0 b0 0 h0 k0 (by omega)
  obtain ⟨s1, c1, p1, q1, r1, t1, w1⟩ := carry_step a1 b1 c0 h1 k1 t0
  obtain ⟨s2, c2, p2, q2, r2, t2, w2⟩ := carry_step a2 b2 c1 h2 k2 t1
  obtain ⟨s3, c3, p3, q3, r3, t3, w3⟩ := carry_step a3 b3 c2 h3 k3 t2
  simp only [Int.natCast_zero] at p0 q0
  obtain ⟨m1, m2⟩ := divmod_of (A := a0 + 18446744073709551616 * a1 + 340282366920938463463374607431768211456 * a2 + 6277101735386680763835789423207666416102355444464034512896 * a3 +
    (b0 + 18446744073709551616 * b1 + 340282366920938463463374607431768211456 * b2 + 6277101735386680763835789423207666416102355444464034512896 * b3))
    (S := s0 + 2 ^ 64 * s1 + 2 ^ 128 * s2 + 2 ^ 192 * s3) (c := c3) (M := M256) (by rw [M256_eq]; omega) (by rw [M256_eq]; omega)
  rw [m1] at hab
  have hS : (s0 + 2 ^ 64 * s1 + 2 ^ 128 * s2 + 2 ^ 192 * s3) % M256 = s0 + 2 ^ 64 * s1 + 2 ^ 128 * s2 + 2 ^ 192 * s3 := Nat.mod_eq_of_lt (by rw [M256_eq]; omega)
  simp only [q0, q1, q2, q3, p0, p1, p2, p3, join, Int.toNat_natCast, and_true, hab, hS, m2]
  clear ha hb hab hS m1 m2 p0 p1 p2 p3 q0 q1 q2 q3 w0 w1 w2 w3 e0 e1 e2 e3 f0 f1 f2 f3
  refine ⟨?_, ?_, ?_, ?_, ?_, ?_, ?_, ?_, ?_, ?_, ?_, ?_, ?_, ?_, ?_, ?_⟩ <;> omega

theorem borrow_step (x y c : Nat) (hx : x < 18446744073709551616) (hy : y < 18446744073709551616) (hc : c ≤ 1) :
    ∃ s d : Nat, ((x : Int) - y - c) % 18446744073709551616 = s ∧ -(((x : Int) - y - c) / 18446744073709551616) = d ∧ s < 18446744073709551616 ∧ d ≤ 1 ∧ x + 18446744073709551616 * d = s + y + c :=
  ⟨(((x : Int) - y - c) % 18446744073709551616).toNat, (-(((x : Int) - y - c) / 18446744073709551616)).toNat, by omega, by omega, by omega, by omega, by omega⟩

theorem ok_less : ∀ a b, Owes Try.prog cxLess [] 100 Try.f20 [sU a, sU b] (lessG a b) := by
  intro a b
  rw [vc_less]
  obtain ⟨a0, a1, a2, a3, e0, e1, e2, e3, h0, h1, h2, h3, ha⟩ := split4 a
  obtain ⟨b0, b1, b2, b3, f0, f1, f2, f3, k0, k1, k2, k3, hb⟩ := split4 b
  rw [e0, e1, e2, e3, f0, f1, f2, f3, ha, hb]
  obtain ⟨s0, c0, p0, q0, r0, t0, w0⟩ := borrow_step a0 b0 0 h0 k0 (by omega)
  obtain ⟨s1, c1, p1, q1, r1, t1, w1⟩ := borrow_step a1 b1 c0 h1 k1 t0
  obtain ⟨s2, c2, p2, q2, r2, t2, w2⟩ := borrow_step a2 b2 c1 h2 k2 t1
  obtain ⟨s3, c3, p3, q3, r3, t3, w3⟩ := borrow_step a3 b3 c2 h3 k3 t2
  simp only [Int.natCast_zero] at p0 q0
  have key : a0 + 18446744073709551616 * a1 + 340282366920938463463374607431768211456 * a2 + 6277101735386680763835789423207666416102355444464034512896 * a3 + M256 * c3 =
    (s0 + 2 ^ 64 * s1 + 2 ^ 128 * s2 + 2 ^ 192 * s3) + (b0 + 18446744073709551616 * b1 + 340282366920938463463374607431768211456 * b2 + 6277101735386680763835789423207666416102355444464034512896 * b3) := by
    rw [M256_eq]; omega
  simp only [q0, q1, q2, q3, p0, p1, p2, p3, join, Int.toNat_natCast, and_true]
  generalize hA : a0 + 18446744073709551616 * a1 + 340282366920938463463374607431768211456 * a2 + 6277101735386680763835789423207666416102355444464034512896 * a3 = A at *
  generalize hB : b0 + 18446744073709551616 * b1 + 340282366920938463463374607431768211456 * b2 + 6277101735386680763835789423207666416102355444464034512896 * b3 = B at *
  have hA' : A < M256 := by rw [M256_eq]; omega
  have hB' : B < M256 := by rw [M256_eq]; omega
  have hS' : s0 + 2 ^ 64 * s1 + 2 ^ 128 * s2 + 2 ^ 192 * s3 < M256 := by rw [M256_eq]; omega
  generalize s0 + 2 ^ 64 * s1 + 2 ^ 128 * s2 + 2 ^ 192 * s3 = S at *
  rw [Nat.mod_eq_of_lt hS']
  have hc3 : c3 = 0 ∨ c3 = 1 := by omega
  have fin : S = (A + M256 - B) % M256 ∧ (c3 : Int) = if A < B then 1 else 0 := by
    rcases hc3 with rfl | rfl
    · have : ¬ A < B := by omega
      rw [if_neg this]
      refine ⟨?_, rfl⟩
      rw [show A + M256 - B = S + M256 by omega, Nat.add_mod_right, Nat.mod_eq_of_lt hS']
    · have : A < B := by omega
      rw [if_pos this]
      refine ⟨?_, rfl⟩
      rw [show A + M256 - B = S by omega, Nat.mod_eq_of_lt hS']
  obtain ⟨g1, g2⟩ := fin
  rw [← g1, ← g2]
  clear ha hb hA hB key hA' hB' hS' g1 g2 p0 p1 p2 p3 q0 q1 q2 q3 w0 w1 w2 w3 e0 e1 e2 e3 f0 f1 f2 f3
  repeat' apply And.intro
  all_goals first | rfl | omega

theorem ok_Add : ∀ a b, Owes Try.prog cxAdd [] 100 Try.f7 [sU a, sU b] (addG a b) := by
  intro a b
  rw [vc_Add]
  refine ⟨⟨rfl, trivial⟩, ?_⟩
  have hM : 0 < M256 := by decide
  have h1 := Nat.mod_lt a hM
  have h2 := Nat.mod_lt b hM
  rw [Bool.eq_iff_iff]
  simp only [bne_iff_ne, ne_eq, decide_eq_true_eq]
  by_cases h : M256 ≤ a % M256 + b % M256
  · have : (a % M256 + b % M256) / M256 ≠ 0 := by
      have := Nat.div_pos h hM
      omega
    simp only [h, iff_true]; omega
  · have : (a % M256 + b % M256) / M256 = 0 := Nat.div_eq_of_lt (by omega)
    simp [h, this]

theorem ok_Sub : ∀ a b, Owes Try.prog cxSub [] 100 Try.f8 [sU a, sU b] (subG a b) := by
  intro a b
  rw [vc_Sub]
  refine ⟨⟨rfl, trivial⟩, ?_⟩
  by_cases h : a % M256 < b % M256 <;> simp [h]

theorem ok_Cmp : ∀ a b, Owes Try.prog [] [] 100 Try.f13 [sU a, sU b] (cmpG a b) := by
  intro a b
  rw [vc_Cmp]
  obtain ⟨a0, a1, a2, a3, e0, e1, e2, e3, h0, h1, h2, h3, ha⟩ := split4 a
  obtain ⟨b0, b1, b2, b3, f0, f1, f2, f3, k0, k1, k2, k3, hb⟩ := split4 b
  rw [e0, e1, e2, e3, f0, f1, f2, f3]
  simp only [cmpN, ha, hb, decide_eq_true_eq, decide_eq_false_iff_not]
  clear e0 e1 e2 e3 f0 f1 f2 f3 ha hb
  refine ⟨fun h => ?_, fun h => ⟨fun h' => ?_, fun h' => ⟨fun g => ?_, fun g => ⟨fun g' => ?_, fun g' => ⟨fun i => ?_, fun i => ⟨fun i' => ?_, fun i' => ⟨fun j => ?_, fun j => ⟨fun j' => ?_, fun j' => ?_⟩⟩⟩⟩⟩⟩⟩⟩
  all_goals
    split
    · omega
    · first
      | omega
      | (split <;> omega)

end Go.Proofs.Ytkjakddmmagjaaa
end

section
/-
  The laws' drawn numbers, and the laws of sums: the numbers' side.
-/
namespace Go.Proofs.Ytkjakddmmagjaaa
open Go.Sx

theorem add_back (x y : Nat) : ((x + y) % M256 + M256 - y % M256) % M256 = x % M256 := by
  have : M256 = 115792089237316195423570985008687907853269984665640564039457584007913129639936 := M256_eq
  rw [this]
  omega
theorem add_over (x y : Nat) : (M256 ≤ x % M256 + y % M256) ↔ ((x + y) % M256 < y % M256) := by
  have : M256 = 115792089237316195423570985008687907853269984665640564039457584007913129639936 := M256_eq
  rw [this]
  omega

end Go.Proofs.Ytkjakddmmagjaaa
end

section
/-
  Products: the numbers' side.
-/
namespace Go.Proofs.Ytkjakddmmagjaaa
open Go.Sx

theorem wrap_id {n : Int} (h : 0 ≤ n ∧ n < 18446744073709551616) : IntKind.u64.wrap n = n := by
  unfold IntKind.wrap
  simp [IntKind.signed, IntKind.bits]
  omega

theorem limbs_int (a : Nat) : ((a % M256 : Nat) : Int) = limb a 0 + 18446744073709551616 * limb a 1 + 340282366920938463463374607431768211456 * limb a 2 + 6277101735386680763835789423207666416102355444464034512896 * limb a 3 := by
  obtain ⟨a0, a1, a2, a3, e0, e1, e2, e3, _, _, _, _, ha⟩ := split4 a
  rw [ha, e0, e1, e2, e3]
  omega
theorem mul_fin (a b : Nat) (c0 c1 c2 c3 c4 c5 c6 c7 : Int) (h0 : 0 ≤ c0 ∧ c0 < 18446744073709551616) (h1 : 0 ≤ c1 ∧ c1 < 18446744073709551616) (h2 : 0 ≤ c2 ∧ c2 < 18446744073709551616) (h3 : 0 ≤ c3 ∧ c3 < 18446744073709551616)
    (h4 : 0 ≤ c4 ∧ c4 < 18446744073709551616) (h5 : 0 ≤ c5 ∧ c5 < 18446744073709551616) (h6 : 0 ≤ c6 ∧ c6 < 18446744073709551616) (h7 : 0 ≤ c7 ∧ c7 < 18446744073709551616)
    (h : ((a % M256 : Nat) : Int) * ((b % M256 : Nat) : Int) = c0 + 18446744073709551616 * c1 + 340282366920938463463374607431768211456 * c2 + 6277101735386680763835789423207666416102355444464034512896 * c3 + 115792089237316195423570985008687907853269984665640564039457584007913129639936 * (c4 + 18446744073709551616 * c5 + 340282366920938463463374607431768211456 * c6 + 6277101735386680763835789423207666416102355444464034512896 * c7)) :
    join c0 c1 c2 c3 % M256 = a * b % M256 ∧ join c4 c5 c6 c7 % M256 = a % M256 * (b % M256) / M256 % M256 := by
  obtain ⟨c0, rfl⟩ := Int.eq_ofNat_of_zero_le h0.1
  obtain ⟨c1, rfl⟩ := Int.eq_ofNat_of_zero_le h1.1
  obtain ⟨c2, rfl⟩ := Int.eq_ofNat_of_zero_le h2.1
  obtain ⟨c3, rfl⟩ := Int.eq_ofNat_of_zero_le h3.1
  obtain ⟨c4, rfl⟩ := Int.eq_ofNat_of_zero_le h4.1
  obtain ⟨c5, rfl⟩ := Int.eq_ofNat_of_zero_le h5.1
  obtain ⟨c6, rfl⟩ := Int.eq_ofNat_of_zero_le h6.1
  obtain ⟨c7, rfl⟩ := Int.eq_ofNat_of_zero_le h7.1
  have hm := Nat.mul_mod a b M256
  rw [← Int.natCast_mul] at h
  generalize a % M256 * (b % M256) = g at h hm
  have e : g = join c0 c1 c2 c3 + M256 * join c4 c5 c6 c7 := by
    unfold join
    rw [M256_eq]
    simp only [Int.toNat_natCast, Nat.reducePow]
    omega
  have hlt : join c0 c1 c2 c3 < M256 := join_lt (by omega) (by omega) (by omega) (by omega)
  obtain ⟨k1, k2⟩ := divmod_of e hlt
  refine ⟨by rw [hm, k1, Nat.mod_eq_of_lt hlt], by rw [k2]⟩
theorem mac (X O P : Int) (hX : 0 ≤ X ∧ X ≤ 340282366920938463426481119284349108225) (hO : 0 ≤ O ∧ O < 18446744073709551616) (hP : 0 ≤ P ∧ P < 18446744073709551616) :
    X + O + P = (P + (X % 18446744073709551616 + O + 0) % 18446744073709551616 + 0) % 18446744073709551616 +
      18446744073709551616 * IntKind.u64.wrap (IntKind.u64.wrap (X / 18446744073709551616 + (X % 18446744073709551616 + O + 0) / 18446744073709551616) + (P + (X % 18446744073709551616 + O + 0) % 18446744073709551616 + 0) / 18446744073709551616) ∧
    (0 ≤ (P + (X % 18446744073709551616 + O + 0) % 18446744073709551616 + 0) % 18446744073709551616 ∧ (P + (X % 18446744073709551616 + O + 0) % 18446744073709551616 + 0) % 18446744073709551616 < 18446744073709551616) ∧
    (0 ≤ IntKind.u64.wrap (IntKind.u64.wrap (X / 18446744073709551616 + (X % 18446744073709551616 + O + 0) / 18446744073709551616) + (P + (X % 18446744073709551616 + O + 0) % 18446744073709551616 + 0) / 18446744073709551616) ∧
     IntKind.u64.wrap (IntKind.u64.wrap (X / 18446744073709551616 + (X % 18446744073709551616 + O + 0) / 18446744073709551616) + (P + (X % 18446744073709551616 + O + 0) % 18446744073709551616 + 0) / 18446744073709551616) < 18446744073709551616) := by
  have h1 : IntKind.u64.wrap (X / 18446744073709551616 + (X % 18446744073709551616 + O + 0) / 18446744073709551616) = X / 18446744073709551616 + (X % 18446744073709551616 + O + 0) / 18446744073709551616 := wrap_id (by omega)
  rw [h1, wrap_id (by omega)]
  omega
theorem limb_mul (a b : Nat) (i j : Nat) : 0 ≤ limb a i * limb b j ∧ limb a i * limb b j ≤ 340282366920938463426481119284349108225 := by
  have h1 := limb_nonneg a i
  have h2 := limb_nonneg b j
  have h3 := limb_lt a i
  have h4 := limb_lt b j
  refine ⟨Int.mul_nonneg h1 h2, ?_⟩
  have : limb a i * limb b j ≤ 18446744073709551615 * 18446744073709551615 := Int.mul_le_mul (by omega) (by omega) h2 (by decide)
  omega

/-- What the sixteen products come to, weighed. -/
theorem mul_weigh (a b c0 c1 c2 c3 c4 c5 c6 c7 : Int) (a0 a1 a2 a3 b0 b1 b2 b3 : Int) (ha : a = a0 + 18446744073709551616 * a1 + 340282366920938463463374607431768211456 * a2 + 6277101735386680763835789423207666416102355444464034512896 * a3)
    (hb : b = b0 + 18446744073709551616 * b1 + 340282366920938463463374607431768211456 * b2 + 6277101735386680763835789423207666416102355444464034512896 * b3)
    (h : a0 * b0 + 18446744073709551616 * (a0 * b1 + a1 * b0) + 340282366920938463463374607431768211456 * (a0 * b2 + a1 * b1 + a2 * b0) + 6277101735386680763835789423207666416102355444464034512896 * (a0 * b3 + a1 * b2 + a2 * b1 + a3 * b0) +
      115792089237316195423570985008687907853269984665640564039457584007913129639936 * (a1 * b3 + a2 * b2 + a3 * b1) + 2135987035920910082395021706169552114602704522356652769947041607822219725780640550022962086936576 * (a2 * b3 + a3 * b2) + 39402006196394479212279040100143613805079739270465446667948293404245721771497210611414266254884915640806627990306816 * (a3 * b3) =
      c0 + 18446744073709551616 * c1 + 340282366920938463463374607431768211456 * c2 + 6277101735386680763835789423207666416102355444464034512896 * c3 + 115792089237316195423570985008687907853269984665640564039457584007913129639936 * c4 + 2135987035920910082395021706169552114602704522356652769947041607822219725780640550022962086936576 * c5 + 39402006196394479212279040100143613805079739270465446667948293404245721771497210611414266254884915640806627990306816 * c6 + 726838724295606890549323807888004534353641360687318060281490199180639288113397923326191050713763565560762521606266177933534601628614656 * c7) :
    a * b = c0 + 18446744073709551616 * c1 + 340282366920938463463374607431768211456 * c2 + 6277101735386680763835789423207666416102355444464034512896 * c3 + 115792089237316195423570985008687907853269984665640564039457584007913129639936 * (c4 + 18446744073709551616 * c5 + 340282366920938463463374607431768211456 * c6 + 6277101735386680763835789423207666416102355444464034512896 * c7) := by
  subst ha hb
  simp only [Int.add_mul, Int.mul_add, Int.mul_assoc] at h ⊢
  have e : ∀ (x y : Int) (k : Int), x * (k * y) = k * (x * y) := fun x y k => Int.mul_left_comm x k y
  simp only [e a0, e a1, e a2, e a3] at h ⊢
  omega

set_option maxRecDepth 100000 in
theorem ok_Mul : ∀ a b, Owes Try.prog cxMul2 [] 100 Try.f11 [sU a, sU b] (mulG a b) := by
  intro a b
  rw [vc_Mul]
  have hm := limb_mul a b
  have h01 : (0 : Int) ≤ 1 := by decide
  have hz : (0 : Int) ≤ 0 ∧ (0 : Int) < 18446744073709551616 := by decide
  have hl : ∀ n i, (0 : Int) ≤ limb n i ∧ limb n i < 18446744073709551616 := fun n i => ⟨limb_nonneg n i, limb_lt n i⟩
  intro x1 x2 x3 x4 x5 x6 x7 x8 x9 x10 x11 x12 x13 x14 x15 x16 x17 x18 x19 x20 x21 x22 x23 x24 x25 x26 x27 x28 x29 x30 x31 x32 x33 x34 x35 x36 x37 x38 x39 x40 x41 x42 x43 x44 x45 x46 x47 x48 x49 x50 x51 x52 x53 x54 x55 x56 x57 x58 x59 x60 x61 x62 x63 x64 x65 x66 x67 x68 x69 x70 x71 x72 x73 x74 x75 x76 x77 x78 x79 x80 x81 x82 x83 x84 x85 x86 x87 x88 x89 x90 x91 x92 x93 x94 x95 x96 x97 x98 x99 x100 x101 x102 x103 x104 x105 x106 x107 x108 x109 x110 x111 x112
  obtain ⟨f0_0, p0_0, r0_0⟩ : x1 + 0 + 0 = x104 + 18446744073709551616 * x8 ∧ (0 ≤ x104 ∧ x104 < 18446744073709551616) ∧ (0 ≤ x8 ∧ x8 < 18446744073709551616) := mac x1 0 0 (hm 0 0) hz hz
  obtain ⟨f0_1, p0_1, r0_1⟩ : x5 + x8 + 0 = x25 + 18446744073709551616 * x14 ∧ (0 ≤ x25 ∧ x25 < 18446744073709551616) ∧ (0 ≤ x14 ∧ x14 < 18446744073709551616) := mac x5 x8 0 (hm 0 1) r0_0 hz
  obtain ⟨f0_2, p0_2, r0_2⟩ : x11 + x14 + 0 = x32 + 18446744073709551616 * x20 ∧ (0 ≤ x32 ∧ x32 < 18446744073709551616) ∧ (0 ≤ x20 ∧ x20 < 18446744073709551616) := mac x11 x14 0 (hm 0 2) r0_1 hz
  obtain ⟨f0_3, p0_3, r0_3⟩ : x17 + x20 + 0 = x40 + 18446744073709551616 * x47 ∧ (0 ≤ x40 ∧ x40 < 18446744073709551616) ∧ (0 ≤ x47 ∧ x47 < 18446744073709551616) := mac x17 x20 0 (hm 0 3) r0_2 hz
  obtain ⟨f1_0, p1_0, r1_0⟩ : x23 + 0 + x25 = x105 + 18446744073709551616 * x31 ∧ (0 ≤ x105 ∧ x105 < 18446744073709551616) ∧ (0 ≤ x31 ∧ x31 < 18446744073709551616) := mac x23 0 x25 (hm 1 0) hz p0_1
  obtain ⟨f1_1, p1_1, r1_1⟩ : x28 + x31 + x32 = x52 + 18446744073709551616 * x38 ∧ (0 ≤ x52 ∧ x52 < 18446744073709551616) ∧ (0 ≤ x38 ∧ x38 < 18446744073709551616) := mac x28 x31 x32 (hm 1 1) r1_0 p0_2
  obtain ⟨f1_2, p1_2, r1_2⟩ : x35 + x38 + x40 = x59 + 18446744073709551616 * x46 ∧ (0 ≤ x59 ∧ x59 < 18446744073709551616) ∧ (0 ≤ x46 ∧ x46 < 18446744073709551616) := mac x35 x38 x40 (hm 1 2) r1_1 p0_3
  obtain ⟨f1_3, p1_3, r1_3⟩ : x43 + x46 + x47 = x67 + 18446744073709551616 * x74 ∧ (0 ≤ x67 ∧ x67 < 18446744073709551616) ∧ (0 ≤ x74 ∧ x74 < 18446744073709551616) := mac x43 x46 x47 (hm 1 3) r1_2 r0_3
  obtain ⟨f2_0, p2_0, r2_0⟩ : x50 + 0 + x52 = x106 + 18446744073709551616 * x58 ∧ (0 ≤ x106 ∧ x106 < 18446744073709551616) ∧ (0 ≤ x58 ∧ x58 < 18446744073709551616) := mac x50 0 x52 (hm 2 0) hz p1_1
  obtain ⟨f2_1, p2_1, r2_1⟩ : x55 + x58 + x59 = x79 + 18446744073709551616 * x65 ∧ (0 ≤ x79 ∧ x79 < 18446744073709551616) ∧ (0 ≤ x65 ∧ x65 < 18446744073709551616) := mac x55 x58 x59 (hm 2 1) r2_0 p1_2
  obtain ⟨f2_2, p2_2, r2_2⟩ : x62 + x65 + x67 = x86 + 18446744073709551616 * x73 ∧ (0 ≤ x86 ∧ x86 < 18446744073709551616) ∧ (0 ≤ x73 ∧ x73 < 18446744073709551616) := mac x62 x65 x67 (hm 2 2) r2_1 p1_3
  obtain ⟨f2_3, p2_3, r2_3⟩ : x70 + x73 + x74 = x94 + 18446744073709551616 * x101 ∧ (0 ≤ x94 ∧ x94 < 18446744073709551616) ∧ (0 ≤ x101 ∧ x101 < 18446744073709551616) := mac x70 x73 x74 (hm 2 3) r2_2 r1_3
  obtain ⟨f3_0, p3_0, r3_0⟩ : x77 + 0 + x79 = x107 + 18446744073709551616 * x85 ∧ (0 ≤ x107 ∧ x107 < 18446744073709551616) ∧ (0 ≤ x85 ∧ x85 < 18446744073709551616) := mac x77 0 x79 (hm 3 0) hz p2_1
  obtain ⟨f3_1, p3_1, r3_1⟩ : x82 + x85 + x86 = x108 + 18446744073709551616 * x92 ∧ (0 ≤ x108 ∧ x108 < 18446744073709551616) ∧ (0 ≤ x92 ∧ x92 < 18446744073709551616) := mac x82 x85 x86 (hm 3 1) r3_0 p2_2
  obtain ⟨f3_2, p3_2, r3_2⟩ : x89 + x92 + x94 = x109 + 18446744073709551616 * x100 ∧ (0 ≤ x109 ∧ x109 < 18446744073709551616) ∧ (0 ≤ x100 ∧ x100 < 18446744073709551616) := mac x89 x92 x94 (hm 3 2) r3_1 p2_3
  obtain ⟨f3_3, p3_3, r3_3⟩ : x97 + x100 + x101 = x111 + 18446744073709551616 * x112 ∧ (0 ≤ x111 ∧ x111 < 18446744073709551616) ∧ (0 ≤ x112 ∧ x112 < 18446744073709551616) := mac x97 x100 x101 (hm 3 3) r3_2 r2_3
  have n_x2 : 0 ≤ x2 := Int.emod_nonneg _ (by decide)
  have n_x4 : 0 ≤ x4 := Int.emod_nonneg _ (by decide)
  have n_x6 : 0 ≤ x6 := Int.emod_nonneg _ (by decide)
  have n_x10 : 0 ≤ x10 := Int.emod_nonneg _ (by decide)
  have n_x12 : 0 ≤ x12 := Int.emod_nonneg _ (by decide)
  have n_x16 : 0 ≤ x16 := Int.emod_nonneg _ (by decide)
  have n_x18 : 0 ≤ x18 := Int.emod_nonneg _ (by decide)
  have n_x22 : 0 ≤ x22 := Int.emod_nonneg _ (by decide)
  have n_x24 : 0 ≤ x24 := Int.emod_nonneg _ (by decide)
  have n_x25 : 0 ≤ x25 := Int.emod_nonneg _ (by decide)
  have n_x27 : 0 ≤ x27 := Int.emod_nonneg _ (by decide)
  have n_x29 : 0 ≤ x29 := Int.emod_nonneg _ (by decide)
  have n_x32 : 0 ≤ x32 := Int.emod_nonneg _ (by decide)
  have n_x34 : 0 ≤ x34 := Int.emod_nonneg _ (by decide)
  have n_x36 : 0 ≤ x36 := Int.emod_nonneg _ (by decide)
  have n_x40 : 0 ≤ x40 := Int.emod_nonneg _ (by decide)
  have n_x42 : 0 ≤ x42 := Int.emod_nonneg _ (by decide)
  have n_x44 : 0 ≤ x44 := Int.emod_nonneg _ (by decide)
  have n_x49 : 0 ≤ x49 := Int.emod_nonneg _ (by decide)
  have n_x51 : 0 ≤ x51 := Int.emod_nonneg _ (by decide)
  have n_x52 : 0 ≤ x52 := Int.emod_nonneg _ (by decide)
  have n_x54 : 0 ≤ x54 := Int.emod_nonneg _ (by decide)
  have n_x56 : 0 ≤ x56 := Int.emod_nonneg _ (by decide)
  have n_x59 : 0 ≤ x59 := Int.emod_nonneg _ (by decide)
  have n_x61 : 0 ≤ x61 := Int.emod_nonneg _ (by decide)
  have n_x63 : 0 ≤ x63 := Int.emod_nonneg _ (by decide)
  have n_x67 : 0 ≤ x67 := Int.emod_nonneg _ (by decide)
  have n_x69 : 0 ≤ x69 := Int.emod_nonneg _ (by decide)
  have n_x71 : 0 ≤ x71 := Int.emod_nonneg _ (by decide)
  have n_x76 : 0 ≤ x76 := Int.emod_nonneg _ (by decide)
  have n_x78 : 0 ≤ x78 := Int.emod_nonneg _ (by decide)
  have n_x79 : 0 ≤ x79 := Int.emod_nonneg _ (by decide)
  have n_x81 : 0 ≤ x81 := Int.emod_nonneg _ (by decide)
  have n_x83 : 0 ≤ x83 := Int.emod_nonneg _ (by decide)
  have n_x86 : 0 ≤ x86 := Int.emod_nonneg _ (by decide)
  have n_x88 : 0 ≤ x88 := Int.emod_nonneg _ (by decide)
  have n_x90 : 0 ≤ x90 := Int.emod_nonneg _ (by decide)
  have n_x94 : 0 ≤ x94 := Int.emod_nonneg _ (by decide)
  have n_x96 : 0 ≤ x96 := Int.emod_nonneg _ (by decide)
  have n_x98 : 0 ≤ x98 := Int.emod_nonneg _ (by decide)
  have n_x103 : 0 ≤ x103 := Int.emod_nonneg _ (by decide)
  have n_x104 : 0 ≤ x104 := Int.emod_nonneg _ (by decide)
  have n_x105 : 0 ≤ x105 := Int.emod_nonneg _ (by decide)
  have n_x106 : 0 ≤ x106 := Int.emod_nonneg _ (by decide)
  have n_x107 : 0 ≤ x107 := Int.emod_nonneg _ (by decide)
  have n_x108 : 0 ≤ x108 := Int.emod_nonneg _ (by decide)
  have n_x109 : 0 ≤ x109 := Int.emod_nonneg _ (by decide)
  have n_x111 : 0 ≤ x111 := Int.emod_nonneg _ (by decide)
  have g0_0 : limb a 0 * limb b 0 = x1 := rfl
  have g0_1 : limb a 0 * limb b 1 = x5 := rfl
  have g0_2 : limb a 0 * limb b 2 = x11 := rfl
  have g0_3 : limb a 0 * limb b 3 = x17 := rfl
  have g1_0 : limb a 1 * limb b 0 = x23 := rfl
  have g1_1 : limb a 1 * limb b 1 = x28 := rfl
  have g1_2 : limb a 1 * limb b 2 = x35 := rfl
  have g1_3 : limb a 1 * limb b 3 = x43 := rfl
  have g2_0 : limb a 2 * limb b 0 = x50 := rfl
  have g2_1 : limb a 2 * limb b 1 = x55 := rfl
  have g2_2 : limb a 2 * limb b 2 = x62 := rfl
  have g2_3 : limb a 2 * limb b 3 = x70 := rfl
  have g3_0 : limb a 3 * limb b 0 = x77 := rfl
  have g3_1 : limb a 3 * limb b 1 = x82 := rfl
  have g3_2 : limb a 3 * limb b 2 = x89 := rfl
  have g3_3 : limb a 3 * limb b 3 = x97 := rfl
  clear_value x112 x111 x110 x109 x108 x107 x106 x105 x104 x103 x102 x101 x100 x99 x98 x97 x96 x95 x94 x93 x92 x91 x90 x89 x88 x87 x86 x85 x84 x83 x82 x81 x80 x79 x78 x77 x76 x75 x74 x73 x72 x71 x70 x69 x68 x67 x66 x65 x64 x63 x62 x61 x60 x59 x58 x57 x56 x55 x54 x53 x52 x51 x50 x49 x48 x47 x46 x45 x44 x43 x42 x41 x40 x39 x38 x37 x36 x35 x34 x33 x32 x31 x30 x29 x28 x27 x26 x25 x24 x23 x22 x21 x20 x19 x18 x17 x16 x15 x14 x13 x12 x11 x10 x9 x8 x7 x6 x5 x4 x3 x2 x1
  have hw := mul_weigh ((a % M256 : Nat) : Int) ((b % M256 : Nat) : Int) x104 x105 x106 x107 x108 x109 x111 x112 (limb a 0) (limb a 1) (limb a 2) (limb a 3) (limb b 0) (limb b 1) (limb b 2) (limb b 3) (limbs_int a) (limbs_int b)
    (by rw [g0_0, g0_1, g0_2, g0_3, g1_0, g1_1, g1_2, g1_3, g2_0, g2_1, g2_2, g2_3, g3_0, g3_1, g3_2, g3_3]; clear hm hl n_x2 n_x4 n_x6 n_x10 n_x12 n_x16 n_x18 n_x22 n_x24 n_x25 n_x27 n_x29 n_x32 n_x34 n_x36 n_x40 n_x42 n_x44 n_x49 n_x51 n_x52 n_x54 n_x56 n_x59 n_x61 n_x63 n_x67 n_x69 n_x71 n_x76 n_x78 n_x79 n_x81 n_x83 n_x86 n_x88 n_x90 n_x94 n_x96 n_x98 n_x103 n_x104 n_x105 n_x106 n_x107 n_x108 n_x109 n_x111; omega)
  obtain ⟨q1, q2⟩ := mul_fin a b x104 x105 x106 x107 x108 x109 x111 x112 p0_0 p1_0 p2_0 p3_0 p3_1 p3_2 p3_3 r3_3 hw
  have o_x8 := r0_0.1
  have o_x14 := r0_1.1
  have o_x20 := r0_2.1
  have o_x47 := r0_3.1
  have o_x31 := r1_0.1
  have o_x38 := r1_1.1
  have o_x46 := r1_2.1
  have o_x74 := r1_3.1
  have o_x58 := r2_0.1
  have o_x65 := r2_1.1
  have o_x73 := r2_2.1
  have o_x101 := r2_3.1
  have o_x85 := r3_0.1
  have o_x92 := r3_1.1
  have o_x100 := r3_2.1
  have o_x112 := r3_3.1
  exact ⟨⟨(limb_nonneg _ _), (limb_lt _ _)⟩, ⟨(limb_nonneg _ _), (limb_lt _ _)⟩, n_x2, hz.1, ⟨hz.1, h01⟩, hz.1, n_x4, ⟨hz.1, h01⟩, ⟨(limb_nonneg _ _), (limb_lt _ _)⟩, ⟨(limb_nonneg _ _), (limb_lt _ _)⟩, n_x6, r0_0.1, ⟨hz.1, h01⟩, hz.1, n_x10, ⟨hz.1, h01⟩, ⟨(limb_nonneg _ _), (limb_lt _ _)⟩, ⟨(limb_nonneg _ _), (limb_lt _ _)⟩, n_x12, r0_1.1, ⟨hz.1, h01⟩, hz.1, n_x16, ⟨hz.1, h01⟩, ⟨(limb_nonneg _ _), (limb_lt _ _)⟩, ⟨(limb_nonneg _ _), (limb_lt _ _)⟩, n_x18, r0_2.1, ⟨hz.1, h01⟩, hz.1, n_x22, ⟨hz.1, h01⟩, ⟨(limb_nonneg _ _), (limb_lt _ _)⟩, ⟨(limb_nonneg _ _), (limb_lt _ _)⟩, n_x24, hz.1, ⟨hz.1, h01⟩, p0_1.1, n_x27, ⟨hz.1, h01⟩, ⟨(limb_nonneg _ _), (limb_lt _ _)⟩, ⟨(limb_nonneg _ _), (limb_lt _ _)⟩, n_x29, r1_0.1, ⟨hz.1, h01⟩, p0_2.1, n_x34, ⟨hz.1, h01⟩, ⟨(limb_nonneg _ _), (limb_lt _ _)⟩, ⟨(limb_nonneg _ _), (limb_lt _ _)⟩, n_x36, r1_1.1, ⟨hz.1, h01⟩, p0_3.1, n_x42, ⟨hz.1, h01⟩, ⟨(limb_nonneg _ _), (limb_lt _ _)⟩, ⟨(limb_nonneg _ _), (limb_lt _ _)⟩, n_x44, r1_2.1, ⟨hz.1, h01⟩, r0_3.1, n_x49, ⟨hz.1, h01⟩, ⟨(limb_nonneg _ _), (limb_lt _ _)⟩, ⟨(limb_nonneg _ _), (limb_lt _ _)⟩, n_x51, hz.1, ⟨hz.1, h01⟩, p1_1.1, n_x54, ⟨hz.1, h01⟩, ⟨(limb_nonneg _ _), (limb_lt _ _)⟩, ⟨(limb_nonneg _ _), (limb_lt _ _)⟩, n_x56, r2_0.1, ⟨hz.1, h01⟩, p1_2.1, n_x61, ⟨hz.1, h01⟩, ⟨(limb_nonneg _ _), (limb_lt _ _)⟩, ⟨(limb_nonneg _ _), (limb_lt _ _)⟩, n_x63, r2_1.1, ⟨hz.1, h01⟩, p1_3.1, n_x69, ⟨hz.1, h01⟩, ⟨(limb_nonneg _ _), (limb_lt _ _)⟩, ⟨(limb_nonneg _ _), (limb_lt _ _)⟩, n_x71, r2_2.1, ⟨hz.1, h01⟩, r1_3.1, n_x76, ⟨hz.1, h01⟩, ⟨(limb_nonneg _ _), (limb_lt _ _)⟩, ⟨(limb_nonneg _ _), (limb_lt _ _)⟩, n_x78, hz.1, ⟨hz.1, h01⟩, p2_1.1, n_x81, ⟨hz.1, h01⟩, ⟨(limb_nonneg _ _), (limb_lt _ _)⟩, ⟨(limb_nonneg _ _), (limb_lt _ _)⟩, n_x83, r3_0.1, ⟨hz.1, h01⟩, p2_2.1, n_x88, ⟨hz.1, h01⟩, ⟨(limb_nonneg _ _), (limb_lt _ _)⟩, ⟨(limb_nonneg _ _), (limb_lt _ _)⟩, n_x90, r3_1.1, ⟨hz.1, h01⟩, p2_3.1, n_x96, ⟨hz.1, h01⟩, ⟨(limb_nonneg _ _), (limb_lt _ _)⟩, ⟨(limb_nonneg _ _), (limb_lt _ _)⟩, n_x98, r3_2.1, ⟨hz.1, h01⟩, r2_3.1, n_x103, ⟨hz.1, h01⟩, ⟨⟨p0_0.1, p0_0.2⟩, ⟨p1_0.1, p1_0.2⟩, ⟨p2_0.1, p2_0.2⟩, ⟨p3_0.1, p3_0.2⟩, q1, trivial⟩, ⟨p3_1.1, p3_1.2⟩, ⟨p3_2.1, p3_2.2⟩, ⟨p3_3.1, p3_3.2⟩, ⟨r3_3.1, r3_3.2⟩, q2, trivial⟩
end Go.Proofs.Ytkjakddmmagjaaa
end

section
/-
  A number taken so often as a word says, and the product of two words: the numbers' side.
-/
namespace Go.Proofs.Ytkjakddmmagjaaa
open Go.Sx

theorem times_step (l n c : Nat) (hl : l < 18446744073709551616) (hn : n < 18446744073709551616) (hc : c < 18446744073709551616) :
    ∃ s d : Nat, ((l : Int) * n % 18446744073709551616 + c + 0) % 18446744073709551616 = s ∧ IntKind.u64.wrap ((l : Int) * n / 18446744073709551616 + ((l : Int) * n % 18446744073709551616 + c + 0) / 18446744073709551616) = d ∧
      s < 18446744073709551616 ∧ d < 18446744073709551616 ∧ l * n + c = s + 18446744073709551616 * d := by
  have hm : l * n ≤ 18446744073709551615 * 18446744073709551615 := Nat.mul_le_mul (by omega) (by omega)
  have e : (l : Int) * n = ((l * n : Nat) : Int) := (Int.natCast_mul l n).symm
  rw [e]
  generalize l * n = g at *
  refine ⟨(g + c) % 18446744073709551616, (g + c) / 18446744073709551616, by omega, ?_, by omega, by omega, by omega⟩
  rw [wrap_id (by omega)]
  omega

end Go.Proofs.Ytkjakddmmagjaaa
end

section
/-
  The product of two words, in full.
-/
namespace Go.Proofs.Ytkjakddmmagjaaa
open Go.Sx

theorem and_low (p : Nat) (hp : p < 18446744073709551616) : (BitVec.ofInt 64 (p : Int) &&& BitVec.ofInt 64 (4294967295 : Int)).toNat = p % 4294967296 := by
  have h1 : (BitVec.ofInt 64 (p : Int)).toNat = p := by
    rw [BitVec.toNat_ofInt]
    omega
  have h2 : (BitVec.ofInt 64 (4294967295 : Int)).toNat = 2 ^ 32 - 1 := by decide
  rw [BitVec.toNat_and, h1, h2, Nat.and_two_pow_sub_one_eq_mod]

theorem fdiv_low (p : Nat) : (p : Int).fdiv 4294967296 = ((p / 4294967296 : Nat) : Int) := by
  rw [Int.fdiv_eq_ediv_of_nonneg _ (show (0 : Int) ≤ 4294967296 by decide)]; rfl
theorem wrap_nat {n : Nat} (h : n < 18446744073709551616) : IntKind.u64.wrap (n : Int) = n := wrap_id ⟨Int.natCast_nonneg _, Int.ofNat_lt.2 h⟩

theorem ok_Mul64 : ∀ a b, w64ok a → w64ok b → Owes Try.prog [] [] 100 Try.f27 [sI .u64 a, sI .u64 b] (mul64G a b) := by
  intro a b ha hb
  rw [vc_Mul64]
  obtain ⟨p, rfl⟩ := Int.eq_ofNat_of_zero_le ha.1
  obtain ⟨q, rfl⟩ := Int.eq_ofNat_of_zero_le hb.1
  have hp : p < 18446744073709551616 := Int.ofNat_lt.1 ha.2
  have hq : q < 18446744073709551616 := Int.ofNat_lt.1 hb.2
  intro x1 x2 x3
  have e1 : x1 = ((q % 4294967296 : Nat) : Int) := by simp only [x1]; rw [and_low q hq]; exact wrap_nat (by omega)
  obtain ⟨m1, m2, m3, m4⟩ := Lib.mul64_hi p q hp hq
  have e2 : x2 = (((p / 4294967296) * (q % 4294967296) + (p % 4294967296) * (q % 4294967296) / 4294967296 : Nat) : Int) := by
    simp only [x2, e1]
    rw [fdiv_low, and_low p hp, wrap_nat (show p % 4294967296 < 18446744073709551616 by omega), ← Int.natCast_mul, ← Int.natCast_mul, wrap_nat m1, fdiv_low]
    have : (p / 4294967296) * (q % 4294967296) < 18446744073709551616 := Nat.lt_of_le_of_lt (Nat.le_add_right _ _) m2
    rw [wrap_nat this, ← Int.natCast_add, wrap_nat m2]
  have e3 : x3 = ((p * q : Nat) : Int) := (Int.natCast_mul p q).symm
  have hpq : p * q / 18446744073709551616 < 18446744073709551616 := by
    have : p * q ≤ 18446744073709551615 * 18446744073709551615 := Nat.mul_le_mul (by omega) (by omega)
    omega
  clear_value x3 x2 x1
  subst e1 e2 e3
  constructor
  · rw [fdiv_low, fdiv_low, fdiv_low, and_low p hp, and_low _ m2, wrap_nat (show p % 4294967296 < 18446744073709551616 by omega), ← Int.natCast_mul, ← Int.natCast_mul]
    have k1 : (p / 4294967296) * (q / 4294967296) < 18446744073709551616 := by rw [← m4] at hpq; omega
    have k2 : (p % 4294967296) * (q / 4294967296) < 18446744073709551616 := Nat.lt_of_le_of_lt (Nat.le_add_left _ _) m3
    rw [wrap_nat k1, wrap_nat k2, wrap_nat (show _ % 4294967296 < 18446744073709551616 by omega), ← Int.natCast_add, ← Int.natCast_add, wrap_nat m3, fdiv_low]
    have k3 : (p / 4294967296) * (q / 4294967296) + ((p / 4294967296) * (q % 4294967296) + (p % 4294967296) * (q % 4294967296) / 4294967296) / 4294967296 < 18446744073709551616 := by rw [← m4] at hpq; exact Nat.lt_of_le_of_lt (Nat.le_add_right _ _) hpq
    rw [wrap_nat k3, ← Int.natCast_add, m4, wrap_nat hpq]
    rfl
  · unfold IntKind.wrap
    simp [IntKind.signed, IntKind.bits]
end Go.Proofs.Ytkjakddmmagjaaa
end

section
/-
  The laws of products: the numbers' side.
-/
namespace Go.Proofs.Ytkjakddmmagjaaa
open Go.Sx

end Go.Proofs.Ytkjakddmmagjaaa
end

section
/-
  A sum is taken so often as its parts are: the numbers' side.
-/
namespace Go.Proofs.Ytkjakddmmagjaaa
open Go.Sx

theorem spreads_mod (x y z : Nat) : (x + y) * z % M256 = (x * z + y * z) % M256 := by rw [Nat.add_mul]
theorem sum_cut (x y : Nat) : (M256 ≤ x % M256 + y % M256 → x % M256 + y % M256 = (x + y) % M256 + M256) ∧ (¬ M256 ≤ x % M256 + y % M256 → x % M256 + y % M256 = (x + y) % M256) := by
  rw [M256_eq]; omega
theorem high_sum (P Q : Nat) : (M256 ≤ P % M256 + Q % M256 → (P + Q) / M256 = P / M256 + Q / M256 + 1) ∧ (¬ M256 ≤ P % M256 + Q % M256 → (P + Q) / M256 = P / M256 + Q / M256) := by
  rw [M256_eq]; omega

theorem spreads (x y z : Nat) :
    (M256 ≤ x % M256 + y % M256 → ((x + y) % M256 * (z % M256) / M256 + z) % M256 = ((x % M256 + y % M256) * (z % M256) / M256) % M256) ∧
    (¬ M256 ≤ x % M256 + y % M256 → ((x + y) % M256 * (z % M256) / M256) % M256 = ((x % M256 + y % M256) * (z % M256) / M256) % M256) := by
  obtain ⟨c1, c2⟩ := sum_cut x y
  refine ⟨fun h => ?_, fun h => ?_⟩
  · rw [c1 h, Nat.add_mul, Nat.add_mul_div_left _ _ (by rw [M256_eq]; decide), Nat.add_mod, Nat.add_mod (_ / _) (z % M256), Nat.mod_mod]
  · rw [c2 h]
theorem halves (x y z : Nat) : x * z % M256 + y * z % M256 = (x % M256 * (z % M256)) % M256 + (y % M256 * (z % M256)) % M256 := by
  rw [Nat.mul_mod x, Nat.mul_mod y]

end Go.Proofs.Ytkjakddmmagjaaa
end

section
/-
  The cards of package wide's functions, one upon another.
-/
namespace Go.Proofs.Ytkjakddmmagjaaa
open Go.Sx

theorem CxOK_nil : CxOK Try.prog [] := fun _ h => by cases h
theorem CxOK_cons {f : Nat} {s : FSpec} {cx : Cx} (h : FnOK Try.prog f s) (hs : CxOK Try.prog cx) : CxOK Try.prog ((f, s) :: cx) := by
  intro p hp
  rcases List.mem_cons.1 hp with rfl | hp
  · exact h
  · exact hs p hp

theorem bnd_U (n : Nat) : SA.bnd none0 (sU n) := by
  intro k hk; simp only [List.mem_singleton] at hk; subst hk; trivial
theorem bnd_I (k : IntKind) (n : Int) : SA.bnd none0 (sI k n) := trivial
theorem bnd_B (b : Bool) : SA.bnd none0 (sB b) := trivial
theorem bnd_one {x : SA} (h : x.bnd none0) : SV.bnd none0 (.one x) := h
theorem bnd_two {x y : SA} (h : x.bnd none0) (h' : y.bnd none0) : SV.bnd none0 (.tup [x, y]) := by
  intro z hz
  simp only [List.mem_cons, List.not_mem_nil, or_false] at hz
  rcases hz with rfl | rfl
  · exact h
  · exact h'

theorem card_Add64 : FnOK Try.prog 28 specAdd64 := FnOK_add64 Try.func28 (by kernel_rfl) (by kernel_rfl) (by kernel_rfl) (by kernel_rfl)
theorem card_Sub64 : FnOK Try.prog 32 specSub64 := FnOK_sub64 Try.func32 (by kernel_rfl) (by kernel_rfl) (by kernel_rfl) (by kernel_rfl)
theorem cxok_plus : CxOK Try.prog cxPlus := CxOK_cons card_Add64 CxOK_nil
theorem card_plus : FnOK Try.prog 19 (specUU plusG) :=
  FnOK_UU cxok_plus (iv := []) (N := 100) Try.func19 (by kernel_rfl) (by kernel_rfl) (fun a b => by unfold plusG; exact bnd_two (bnd_U _) (bnd_I _ _)) ok_plus
theorem cxok_less : CxOK Try.prog cxLess := CxOK_cons card_Sub64 CxOK_nil
theorem card_less : FnOK Try.prog 20 (specUU lessG) :=
  FnOK_UU cxok_less (iv := []) (N := 100) Try.func20 (by kernel_rfl) (by kernel_rfl) (fun a b => by unfold lessG; exact bnd_two (bnd_U _) (bnd_I _ _)) ok_less
theorem cxok_Add : CxOK Try.prog cxAdd := CxOK_cons card_plus CxOK_nil
theorem card_Add : FnOK Try.prog 7 (specUU addG) :=
  FnOK_UU cxok_Add (iv := []) (N := 100) Try.func7 (by kernel_rfl) (by kernel_rfl) (fun a b => by unfold addG; exact bnd_two (bnd_U _) (bnd_B _)) ok_Add
theorem cxok_Sub : CxOK Try.prog cxSub := CxOK_cons card_less CxOK_nil
theorem card_Sub : FnOK Try.prog 8 (specUU subG) :=
  FnOK_UU cxok_Sub (iv := []) (N := 100) Try.func8 (by kernel_rfl) (by kernel_rfl) (fun a b => by unfold subG; exact bnd_two (bnd_U _) (bnd_B _)) ok_Sub
theorem card_Cmp : FnOK Try.prog 13 (specUU cmpG) :=
  FnOK_UU CxOK_nil (iv := []) (N := 100) Try.func13 (by kernel_rfl) (by kernel_rfl) (fun a b => by unfold cmpG; exact bnd_one (bnd_I _ _)) ok_Cmp
theorem cxok_Tells : CxOK Try.prog cxTells := CxOK_cons card_Add CxOK_nil
end Go.Proofs.Ytkjakddmmagjaaa
end

section
/-
  The cards of products.
-/
namespace Go.Proofs.Ytkjakddmmagjaaa
open Go.Sx

theorem card_Mul64 : FnOK Try.prog 27 (specWW mul64G) :=
  FnOK_WW CxOK_nil (iv := []) (N := 100) Try.func27 (by kernel_rfl) (by kernel_rfl) (fun a b => by unfold mul64G; exact bnd_two (bnd_I _ _) (bnd_I _ _)) ok_Mul64
theorem cxok_times : CxOK Try.prog cxTimes2 := CxOK_cons card_Mul64 (CxOK_cons card_Add64 CxOK_nil)
theorem cxok_Mul : CxOK Try.prog cxMul2 := CxOK_cons card_Mul64 (CxOK_cons card_Add64 CxOK_nil)
theorem card_Mul : FnOK Try.prog 11 (specUU mulG) :=
  FnOK_UU cxok_Mul (iv := []) (N := 100) Try.func11 (by kernel_rfl) (by kernel_rfl) (fun a b => by unfold mulG; exact bnd_two (bnd_U _) (bnd_U _)) ok_Mul
end Go.Proofs.Ytkjakddmmagjaaa
end

section
/-
  Orders of package wide are what the document says.
-/
namespace Go.Proofs.Ytkjakddmmagjaaa
open Go.Sx

theorem limb_nat (a i : Nat) : ∃ c : Nat, limb a i = (c : Int) ∧ c < 18446744073709551616 := by
  refine ⟨(limb a i).toNat, (Int.toNat_of_nonneg (limb_nonneg a i)).symm, ?_⟩
  have := limb_lt a i
  have := limb_nonneg a i
  omega
theorem horner_nat (a c0 c1 c2 c3 : Nat) (h0 : limb a 0 = (c0 : Int)) (h1 : limb a 1 = (c1 : Int)) (h2 : limb a 2 = (c2 : Int)) (h3 : limb a 3 = (c3 : Int)) :
    a % M256 = ((c3 * 18446744073709551616 + c2) * 18446744073709551616 + c1) * 18446744073709551616 + c0 := by
  rw [← join_limbs, h0, h1, h2, h3]
  unfold join
  simp only [Int.toNat_natCast]
  omega
theorem hi_is {z : Int} {c : Nat} (h : z = (c : Int)) (hc : c < 18446744073709551616) : IntKind.u64.wrap (z.tdiv 4294967296) = ((c / 4294967296 : Nat) : Int) := by
  rw [h, Int.tdiv_eq_ediv_of_nonneg (Int.natCast_nonneg _), wrap_id (by omega)]
  omega
theorem lo_is {z : Int} {c : Nat} (h : z = (c : Int)) : z.tmod 4294967296 = ((c % 4294967296 : Nat) : Int) := by
  rw [h, Int.tmod_eq_emod_of_nonneg (Int.natCast_nonneg _)]
  omega
theorem ok_WideOrders : ∀ a b : Nat, Owes Try.prog cxWO [] 100 Try.f5 [sU a, sU b] yes := by
  intro a b
  rw [vc_WideOrders]
  obtain ⟨c0, k0, q0⟩ := limb_nat a 0
  obtain ⟨c1, k1, q1⟩ := limb_nat a 1
  obtain ⟨c2, k2, q2⟩ := limb_nat a 2
  obtain ⟨c3, k3, q3⟩ := limb_nat a 3
  obtain ⟨d0, m0, r0⟩ := limb_nat b 0
  obtain ⟨d1, m1, r1⟩ := limb_nat b 1
  obtain ⟨d2, m2, r2⟩ := limb_nat b 2
  obtain ⟨d3, m3, r3⟩ := limb_nat b 3
  have hA := horner_nat a c0 c1 c2 c3 k0 k1 k2 k3
  have hB := horner_nat b d0 d1 d2 d3 m0 m1 m2 m3
  have lt : a % M256 < b % M256 → (cmpN a b == -1) = true := fun h => by
    unfold cmpN
    rw [if_pos h]
    rfl
  have gt : b % M256 < a % M256 → (cmpN a b == 1) = true := fun h => by
    unfold cmpN
    rw [if_neg (by omega), if_pos h]
    rfl
  have eq : a % M256 = b % M256 → (cmpN a b == 0) = true := fun h => by
    unfold cmpN
    rw [if_neg (by omega), if_neg (by omega)]
    rfl
  rw [hA, hB] at lt gt eq
  have ap : ∀ n c : Nat, n + c ≤ maxLen → n ≤ n + c ∧ n + c ≤ maxLen ∧ (n + c) * 1 = n + c * 1 := fun n c h => ⟨by omega, h, by omega⟩
  intro x1 x2 x3 x4 x5 x6 x7 x8 x9 x10 x11 x12 x13 x14 x15 x16
  have Ex13 : x13 = ((c0 / 4294967296 : Nat) : Int) := hi_is k0 q0
  have Ex15 : x15 = ((c0 % 4294967296 : Nat) : Int) := lo_is k0
  have Ex14 : x14 = ((d0 / 4294967296 : Nat) : Int) := hi_is m0 r0
  have Ex16 : x16 = ((d0 % 4294967296 : Nat) : Int) := lo_is m0
  have Ex9 : x9 = ((c1 / 4294967296 : Nat) : Int) := hi_is k1 q1
  have Ex11 : x11 = ((c1 % 4294967296 : Nat) : Int) := lo_is k1
  have Ex10 : x10 = ((d1 / 4294967296 : Nat) : Int) := hi_is m1 r1
  have Ex12 : x12 = ((d1 % 4294967296 : Nat) : Int) := lo_is m1
  have Ex5 : x5 = ((c2 / 4294967296 : Nat) : Int) := hi_is k2 q2
  have Ex7 : x7 = ((c2 % 4294967296 : Nat) : Int) := lo_is k2
  have Ex6 : x6 = ((d2 / 4294967296 : Nat) : Int) := hi_is m2 r2
  have Ex8 : x8 = ((d2 % 4294967296 : Nat) : Int) := lo_is m2
  have Ex1 : x1 = ((c3 / 4294967296 : Nat) : Int) := hi_is k3 q3
  have Ex3 : x3 = ((c3 % 4294967296 : Nat) : Int) := lo_is k3
  have Ex2 : x2 = ((d3 / 4294967296 : Nat) : Int) := hi_is m3 r3
  have Ex4 : x4 = ((d3 % 4294967296 : Nat) : Int) := lo_is m3
  clear_value x16 x15 x14 x13 x12 x11 x10 x9 x8 x7 x6 x5 x4 x3 x2 x1
  generalize cmpN a b = C at *
  subst_vars
  clear hA hB k0 k1 k2 k3 m0 m1 m2 m3
  refine ⟨⟨fun c1 h1 => ⟨ap _ _ h1, fun c2 h2 => ⟨ap _ _ h2, fun c3 h3 => ⟨ap _ _ h3, fun c4 _ c5 h5 => ⟨ap _ _ h5, fun c6 h6 => ⟨ap _ _ h6, fun c7 h7 => ⟨ap _ _ h7, fun c8 _ => ?_⟩⟩⟩⟩⟩⟩, fun c1 h1 => ⟨ap _ _ h1, fun c2 h2 => ⟨ap _ _ h2, fun c3 h3 => ⟨ap _ _ h3, fun c4 _ c5 h5 => ⟨ap _ _ h5, fun c6 h6 => ⟨ap _ _ h6, fun c7 h7 => ⟨ap _ _ h7, fun c8 _ => ?_⟩⟩⟩⟩⟩⟩⟩, fun c1 h1 => ⟨ap _ _ h1, fun c2 h2 => ⟨ap _ _ h2, fun c3 h3 => ⟨ap _ _ h3, fun c4 _ c5 h5 => ⟨ap _ _ h5, fun c6 h6 => ⟨ap _ _ h6, fun c7 h7 => ⟨ap _ _ h7, fun c8 _ => ?_⟩⟩⟩⟩⟩⟩⟩
  all_goals exact ⟨fun h => lt (by have h := of_decide_eq_true h; omega), fun p0 => ⟨fun h => gt (by have h := of_decide_eq_true h; omega), fun p1 => ⟨fun h => lt (by have h := of_decide_eq_true h; have p0 := of_decide_eq_false p0; have p1 := of_decide_eq_false p1; omega), fun p2 => ⟨fun h => gt (by have h := of_decide_eq_true h; have p0 := of_decide_eq_false p0; have p1 := of_decide_eq_false p1; omega), fun p3 => ⟨fun h => lt (by have h := of_decide_eq_true h; have p0 := of_decide_eq_false p0; have p1 := of_decide_eq_false p1; have p2 := of_decide_eq_false p2; have p3 := of_decide_eq_false p3; omega), fun p4 => ⟨fun h => gt (by have h := of_decide_eq_true h; have p0 := of_decide_eq_false p0; have p1 := of_decide_eq_false p1; have p2 := of_decide_eq_false p2; have p3 := of_decide_eq_false p3; omega), fun p5 => ⟨fun h => lt (by have h := of_decide_eq_true h; have p0 := of_decide_eq_false p0; have p1 := of_decide_eq_false p1; have p2 := of_decide_eq_false p2; have p3 := of_decide_eq_false p3; have p4 := of_decide_eq_false p4; have p5 := of_decide_eq_false p5; omega), fun p6 => ⟨fun h => gt (by have h := of_decide_eq_true h; have p0 := of_decide_eq_false p0; have p1 := of_decide_eq_false p1; have p2 := of_decide_eq_false p2; have p3 := of_decide_eq_false p3; have p4 := of_decide_eq_false p4; have p5 := of_decide_eq_false p5; omega), fun p7 => ⟨fun h => lt (by have h := of_decide_eq_true h; have p0 := of_decide_eq_false p0; have p1 := of_decide_eq_false p1; have p2 := of_decide_eq_false p2; have p3 := of_decide_eq_false p3; have p4 := of_decide_eq_false p4; have p5 := of_decide_eq_false p5; have p6 := of_decide_eq_false p6; have p7 := of_decide_eq_false p7; omega), fun p8 => ⟨fun h => gt (by have h := of_decide_eq_true h; have p0 := of_decide_eq_false p0; have p1 := of_decide_eq_false p1; have p2 := of_decide_eq_false p2; have p3 := of_decide_eq_false p3; have p4 := of_decide_eq_false p4; have p5 := of_decide_eq_false p5; have p6 := of_decide_eq_false p6; have p7 := of_decide_eq_false p7; omega), fun p9 => ⟨fun h => lt (by have h := of_decide_eq_true h; have p0 := of_decide_eq_false p0; have p1 := of_decide_eq_false p1; have p2 := of_decide_eq_false p2; have p3 := of_decide_eq_false p3; have p4 := of_decide_eq_false p4; have p5 := of_decide_eq_false p5; have p6 := of_decide_eq_false p6; have p7 := of_decide_eq_false p7; have p8 := of_decide_eq_false p8; have p9 := of_decide_eq_false p9; omega), fun p10 => ⟨fun h => gt (by have h := of_decide_eq_true h; have p0 := of_decide_eq_false p0; have p1 := of_decide_eq_false p1; have p2 := of_decide_eq_false p2; have p3 := of_decide_eq_false p3; have p4 := of_decide_eq_false p4; have p5 := of_decide_eq_false p5; have p6 := of_decide_eq_false p6; have p7 := of_decide_eq_false p7; have p8 := of_decide_eq_false p8; have p9 := of_decide_eq_false p9; omega), fun p11 => ⟨fun h => lt (by have h := of_decide_eq_true h; have p0 := of_decide_eq_false p0; have p1 := of_decide_eq_false p1; have p2 := of_decide_eq_false p2; have p3 := of_decide_eq_false p3; have p4 := of_decide_eq_false p4; have p5 := of_decide_eq_false p5; have p6 := of_decide_eq_false p6; have p7 := of_decide_eq_false p7; have p8 := of_decide_eq_false p8; have p9 := of_decide_eq_false p9; have p10 := of_decide_eq_false p10; have p11 := of_decide_eq_false p11; omega), fun p12 => ⟨fun h => gt (by have h := of_decide_eq_true h; have p0 := of_decide_eq_false p0; have p1 := of_decide_eq_false p1; have p2 := of_decide_eq_false p2; have p3 := of_decide_eq_false p3; have p4 := of_decide_eq_false p4; have p5 := of_decide_eq_false p5; have p6 := of_decide_eq_false p6; have p7 := of_decide_eq_false p7; have p8 := of_decide_eq_false p8; have p9 := of_decide_eq_false p9; have p10 := of_decide_eq_false p10; have p11 := of_decide_eq_false p11; omega), fun p13 => ⟨fun h => lt (by have h := of_decide_eq_true h; have p0 := of_decide_eq_false p0; have p1 := of_decide_eq_false p1; have p2 := of_decide_eq_false p2; have p3 := of_decide_eq_false p3; have p4 := of_decide_eq_false p4; have p5 := of_decide_eq_false p5; have p6 := of_decide_eq_false p6; have p7 := of_decide_eq_false p7; have p8 := of_decide_eq_false p8; have p9 := of_decide_eq_false p9; have p10 := of_decide_eq_false p10; have p11 := of_decide_eq_false p11; have p12 := of_decide_eq_false p12; have p13 := of_decide_eq_false p13; omega), fun p14 => ⟨fun h => gt (by have h := of_decide_eq_true h; have p0 := of_decide_eq_false p0; have p1 := of_decide_eq_false p1; have p2 := of_decide_eq_false p2; have p3 := of_decide_eq_false p3; have p4 := of_decide_eq_false p4; have p5 := of_decide_eq_false p5; have p6 := of_decide_eq_false p6; have p7 := of_decide_eq_false p7; have p8 := of_decide_eq_false p8; have p9 := of_decide_eq_false p9; have p10 := of_decide_eq_false p10; have p11 := of_decide_eq_false p11; have p12 := of_decide_eq_false p12; have p13 := of_decide_eq_false p13; omega), fun p15 => eq (by have p0 := of_decide_eq_false p0; have p1 := of_decide_eq_false p1; have p2 := of_decide_eq_false p2; have p3 := of_decide_eq_false p3; have p4 := of_decide_eq_false p4; have p5 := of_decide_eq_false p5; have p6 := of_decide_eq_false p6; have p7 := of_decide_eq_false p7; have p8 := of_decide_eq_false p8; have p9 := of_decide_eq_false p9; have p10 := of_decide_eq_false p10; have p11 := of_decide_eq_false p11; have p12 := of_decide_eq_false p12; have p13 := of_decide_eq_false p13; have p14 := of_decide_eq_false p14; have p15 := of_decide_eq_false p15; omega)⟩⟩⟩⟩⟩⟩⟩⟩⟩⟩⟩⟩⟩⟩⟩⟩
theorem cxok_WO : CxOK Try.prog cxWO := CxOK_cons card_Cmp CxOK_nil
end Go.Proofs.Ytkjakddmmagjaaa
end

section
/-
  Products of package wide are what the document says: digit by digit to the base 2^32.
-/
namespace Go.Proofs.Ytkjakddmmagjaaa
open Go.Sx

theorem s_is {X Y O C : Int} {x y o c : Nat} (hX : X = (x : Int)) (hY : Y = (y : Int)) (hO : O = (o : Int)) (hC : C = (c : Int)) (bx : x < 4294967296) (by_ : y < 4294967296) (bo : o < 4294967296) (bc : c < 4294967296) :
    IntKind.u64.wrap (IntKind.u64.wrap (IntKind.u64.wrap (X * Y) + O) + C) = ((x * y + o + c : Nat) : Int) ∧ x * y + o + c < 18446744073709551616 := by
  have h1 : x * y ≤ 4294967295 * 4294967295 := Nat.mul_le_mul (by omega) (by omega)
  rw [hX, hY, hO, hC, ← Int.natCast_mul]
  generalize x * y = p at *
  rw [wrap_id (n := (p : Int)) (by omega), wrap_id (n := (p : Int) + (o : Int)) (by omega), wrap_id (by omega)]
  omega
theorem step8 {S p o c T R Q : Nat} (hS : S = p + o + c) (hT : T = R + Q + S / 4294967296) : S % 4294967296 + 4294967296 * T = p + 4294967296 * R + (o + 4294967296 * Q) + c := by
  have := Nat.mod_add_div S 4294967296
  rw [hT, Nat.mul_add, Nat.mul_add]
  omega
theorem row8 {z x Y0 Y1 Y2 Y3 Y4 Y5 Y6 Y7 o0 o1 o2 o3 o4 o5 o6 o7 S0 S1 S2 S3 S4 S5 S6 S7 : Nat} (hz : z = 0) (h0 : S0 = x * Y0 + o0 + z) (h1 : S1 = x * Y1 + o1 + S0 / 4294967296) (h2 : S2 = x * Y2 + o2 + S1 / 4294967296) (h3 : S3 = x * Y3 + o3 + S2 / 4294967296) (h4 : S4 = x * Y4 + o4 + S3 / 4294967296) (h5 : S5 = x * Y5 + o5 + S4 / 4294967296) (h6 : S6 = x * Y6 + o6 + S5 / 4294967296) (h7 : S7 = x * Y7 + o7 + S6 / 4294967296) :
    S0 % 4294967296 + 4294967296 * (S1 % 4294967296 + 4294967296 * (S2 % 4294967296 + 4294967296 * (S3 % 4294967296 + 4294967296 * (S4 % 4294967296 + 4294967296 * (S5 % 4294967296 + 4294967296 * (S6 % 4294967296 + 4294967296 * (S7 % 4294967296 + 4294967296 * (S7 / 4294967296)))))))) = x * (Y0 + 4294967296 * (Y1 + 4294967296 * (Y2 + 4294967296 * (Y3 + 4294967296 * (Y4 + 4294967296 * (Y5 + 4294967296 * (Y6 + 4294967296 * Y7))))))) + (o0 + 4294967296 * (o1 + 4294967296 * (o2 + 4294967296 * (o3 + 4294967296 * (o4 + 4294967296 * (o5 + 4294967296 * (o6 + 4294967296 * o7))))))) := by
  have e : x * (Y0 + 4294967296 * (Y1 + 4294967296 * (Y2 + 4294967296 * (Y3 + 4294967296 * (Y4 + 4294967296 * (Y5 + 4294967296 * (Y6 + 4294967296 * Y7))))))) = x * Y0 + 4294967296 * (x * Y1 + 4294967296 * (x * Y2 + 4294967296 * (x * Y3 + 4294967296 * (x * Y4 + 4294967296 * (x * Y5 + 4294967296 * (x * Y6 + 4294967296 * (x * Y7))))))) := by
    simp only [Nat.mul_add, Nat.mul_left_comm x 4294967296]
  rw [e]
  have t7 : S7 % 4294967296 + 4294967296 * (S7 / 4294967296) = x * Y7 + o7 + S6 / 4294967296 := by rw [Nat.mod_add_div, h7]
  exact (step8 h0 (step8 h1 (step8 h2 (step8 h3 (step8 h4 (step8 h5 (step8 h6 t7))))))).trans (by rw [hz, Nat.add_zero])
theorem step_t {l O P O' T R : Nat} (h : l + 4294967296 * O = P + O') (hT : T = R + O) : l + 4294967296 * T = P + 4294967296 * R + O' := by
  rw [hT, Nat.mul_add]
  omega
theorem total8 {P0 P1 P2 P3 P4 P5 P6 P7 O1 O2 O3 O4 O5 O6 O7 l0 l1 l2 l3 l4 l5 l6 V7 : Nat} (h0 : l0 + 4294967296 * O1 = P0) (h1 : l1 + 4294967296 * O2 = P1 + O1) (h2 : l2 + 4294967296 * O3 = P2 + O2) (h3 : l3 + 4294967296 * O4 = P3 + O3) (h4 : l4 + 4294967296 * O5 = P4 + O4) (h5 : l5 + 4294967296 * O6 = P5 + O5) (h6 : l6 + 4294967296 * O7 = P6 + O6) (h7 : V7 = P7 + O7) :
    l0 + 4294967296 * (l1 + 4294967296 * (l2 + 4294967296 * (l3 + 4294967296 * (l4 + 4294967296 * (l5 + 4294967296 * (l6 + 4294967296 * V7)))))) = P0 + 4294967296 * (P1 + 4294967296 * (P2 + 4294967296 * (P3 + 4294967296 * (P4 + 4294967296 * (P5 + 4294967296 * (P6 + 4294967296 * P7)))))) :=
  step_t (O' := 0) h0 (step_t h1 (step_t h2 (step_t h3 (step_t h4 (step_t h5 (step_t h6 h7))))))
theorem pair2 {d e T : Nat} : d + 4294967296 * (e + 4294967296 * T) = (d + 4294967296 * e) + 18446744073709551616 * T := by
  rw [Nat.mul_add, ← Nat.mul_assoc]
  omega
theorem quad {D0 D1 D2 D3 T : Nat} : D0 + 18446744073709551616 * (D1 + 18446744073709551616 * (D2 + 18446744073709551616 * (D3 + 18446744073709551616 * T))) = ((D3 * 18446744073709551616 + D2) * 18446744073709551616 + D1) * 18446744073709551616 + D0 + 115792089237316195423570985008687907853269984665640564039457584007913129639936 * T :=
  Nat.le_antisymm (by omega) (by omega)
theorem tail4 {D0 D1 D2 D3 : Nat} : D0 + 18446744073709551616 * (D1 + 18446744073709551616 * (D2 + 18446744073709551616 * D3)) = ((D3 * 18446744073709551616 + D2) * 18446744073709551616 + D1) * 18446744073709551616 + D0 :=
  Nat.le_antisymm (by omega) (by omega)
theorem two_lt {d e : Nat} (hd : d < 4294967296) (he : e < 4294967296) : d + 4294967296 * e < 18446744073709551616 := by omega
theorem four_lt {D0 D1 D2 D3 : Nat} (b0 : D0 < 18446744073709551616) (b1 : D1 < 18446744073709551616) (b2 : D2 < 18446744073709551616) (b3 : D3 < 18446744073709551616) : ((D3 * 18446744073709551616 + D2) * 18446744073709551616 + D1) * 18446744073709551616 + D0 < M256 := by rw [M256_eq]; omega
theorem ap_ok (n c : Nat) (h : n + c ≤ maxLen) : n ≤ n + c ∧ n + c ≤ maxLen ∧ (n + c) * 1 = n + c * 1 := ⟨by omega, h, by omega⟩
theorem dv_lt {v : Nat} (h : v < 18446744073709551616) : v / 4294967296 < 4294967296 := by omega
theorem or_two {d e : Nat} (hd : d < 4294967296) (he : e < 4294967296) : IntKind.u64.wrap ((BitVec.ofInt 64 (IntKind.u64.wrap ((BitVec.ofInt 64 (0 : Int) ||| BitVec.ofInt 64 (IntKind.u64.wrap ((d : Int) * 1))).toNat : Int)) ||| BitVec.ofInt 64 (IntKind.u64.wrap ((e : Int) * 4294967296))).toNat : Int) = ((d + 4294967296 * e : Nat) : Int) := by
  have w1 : IntKind.u64.wrap ((d : Int) * 1) = (d : Int) := by rw [Int.mul_one, wrap_id (by omega)]
  have w2 : IntKind.u64.wrap ((e : Int) * 4294967296) = ((4294967296 * e : Nat) : Int) := by rw [wrap_id (by omega)]; omega
  have n0 : (BitVec.ofInt 64 (0 : Int)).toNat = 0 := by decide
  have n1 : ∀ v : Nat, v < 18446744073709551616 → (BitVec.ofInt 64 (v : Int)).toNat = v := fun v h => by rw [BitVec.toNat_ofInt]; omega
  have inner : IntKind.u64.wrap ((BitVec.ofInt 64 (0 : Int) ||| BitVec.ofInt 64 (d : Int)).toNat : Int) = (d : Int) := by
    rw [BitVec.toNat_or, n0, n1 d (by omega), Nat.zero_or, wrap_id (by omega)]
  rw [w1, w2, inner, BitVec.toNat_or, n1 d (by omega), n1 (4294967296 * e) (by omega), Nat.or_comm]
  have h := Nat.two_pow_add_eq_or_of_lt (i := 32) (b := d) (by omega) e
  rw [show (2 : Nat) ^ 32 = 4294967296 by decide] at h
  rw [← h, wrap_id (by omega)]
  omega
theorem limbs_are {n D0 D1 D2 D3 : Nat} (h : n % M256 = ((D3 * 18446744073709551616 + D2) * 18446744073709551616 + D1) * 18446744073709551616 + D0) (b0 : D0 < 18446744073709551616) (b1 : D1 < 18446744073709551616) (b2 : D2 < 18446744073709551616) :
    limb n 0 = (D0 : Int) ∧ limb n 1 = (D1 : Int) ∧ limb n 2 = (D2 : Int) ∧ limb n 3 = (D3 : Int) := by
  obtain ⟨c0, k0, q0⟩ := limb_nat n 0
  obtain ⟨c1, k1, q1⟩ := limb_nat n 1
  obtain ⟨c2, k2, q2⟩ := limb_nat n 2
  obtain ⟨c3, k3, q3⟩ := limb_nat n 3
  have hA := horner_nat n c0 c1 c2 c3 k0 k1 k2 k3
  rw [h] at hA
  rw [k0, k1, k2, k3]
  omega
end Go.Proofs.Ytkjakddmmagjaaa
end

section
/-
  Products of package wide are what the document says.
-/
namespace Go.Proofs.Ytkjakddmmagjaaa
open Go.Sx

set_option maxHeartbeats 4000000 in
theorem ok_WideProducts : ∀ a b : Nat, Owes Try.prog cxWP [] 100 Try.f4 [sU a, sU b] yes := by
  intro a b
  rw [vc_WideProducts]
  obtain ⟨c0, k0, q0⟩ := limb_nat a 0
  obtain ⟨c1, k1, q1⟩ := limb_nat a 1
  obtain ⟨c2, k2, q2⟩ := limb_nat a 2
  obtain ⟨c3, k3, q3⟩ := limb_nat a 3
  obtain ⟨d0, m0, r0⟩ := limb_nat b 0
  obtain ⟨d1, m1, r1⟩ := limb_nat b 1
  obtain ⟨d2, m2, r2⟩ := limb_nat b 2
  obtain ⟨d3, m3, r3⟩ := limb_nat b 3
  have hA := horner_nat a c0 c1 c2 c3 k0 k1 k2 k3
  have hB := horner_nat b d0 d1 d2 d3 m0 m1 m2 m3
  obtain ⟨u0, hu0, bu0⟩ : ∃ u, u = c0 % 4294967296 ∧ u < 4294967296 := ⟨_, rfl, Nat.mod_lt _ (by decide)⟩
  obtain ⟨u1, hu1, bu1⟩ : ∃ u, u = c0 / 4294967296 ∧ u < 4294967296 := ⟨_, rfl, dv_lt q0⟩
  obtain ⟨v0, hv0, bv0⟩ : ∃ u, u = d0 % 4294967296 ∧ u < 4294967296 := ⟨_, rfl, Nat.mod_lt _ (by decide)⟩
  obtain ⟨v1, hv1, bv1⟩ : ∃ u, u = d0 / 4294967296 ∧ u < 4294967296 := ⟨_, rfl, dv_lt r0⟩
  have ea0 : (limb a 0).tmod 4294967296 = (u0 : Int) := by rw [hu0]; exact lo_is k0
  have ea1 : IntKind.u64.wrap ((limb a 0).tdiv 4294967296) = (u1 : Int) := by rw [hu1]; exact hi_is k0 q0
  have eb0 : (limb b 0).tmod 4294967296 = (v0 : Int) := by rw [hv0]; exact lo_is m0
  have eb1 : IntKind.u64.wrap ((limb b 0).tdiv 4294967296) = (v1 : Int) := by rw [hv1]; exact hi_is m0 r0
  obtain ⟨u2, hu2, bu2⟩ : ∃ u, u = c1 % 4294967296 ∧ u < 4294967296 := ⟨_, rfl, Nat.mod_lt _ (by decide)⟩
  obtain ⟨u3, hu3, bu3⟩ : ∃ u, u = c1 / 4294967296 ∧ u < 4294967296 := ⟨_, rfl, dv_lt q1⟩
  obtain ⟨v2, hv2, bv2⟩ : ∃ u, u = d1 % 4294967296 ∧ u < 4294967296 := ⟨_, rfl, Nat.mod_lt _ (by decide)⟩
  obtain ⟨v3, hv3, bv3⟩ : ∃ u, u = d1 / 4294967296 ∧ u < 4294967296 := ⟨_, rfl, dv_lt r1⟩
  have ea2 : (limb a 1).tmod 4294967296 = (u2 : Int) := by rw [hu2]; exact lo_is k1
  have ea3 : IntKind.u64.wrap ((limb a 1).tdiv 4294967296) = (u3 : Int) := by rw [hu3]; exact hi_is k1 q1
  have eb2 : (limb b 1).tmod 4294967296 = (v2 : Int) := by rw [hv2]; exact lo_is m1
  have eb3 : IntKind.u64.wrap ((limb b 1).tdiv 4294967296) = (v3 : Int) := by rw [hv3]; exact hi_is m1 r1
  obtain ⟨u4, hu4, bu4⟩ : ∃ u, u = c2 % 4294967296 ∧ u < 4294967296 := ⟨_, rfl, Nat.mod_lt _ (by decide)⟩
  obtain ⟨u5, hu5, bu5⟩ : ∃ u, u = c2 / 4294967296 ∧ u < 4294967296 := ⟨_, rfl, dv_lt q2⟩
  obtain ⟨v4, hv4, bv4⟩ : ∃ u, u = d2 % 4294967296 ∧ u < 4294967296 := ⟨_, rfl, Nat.mod_lt _ (by decide)⟩
  obtain ⟨v5, hv5, bv5⟩ : ∃ u, u = d2 / 4294967296 ∧ u < 4294967296 := ⟨_, rfl, dv_lt r2⟩
  have ea4 : (limb a 2).tmod 4294967296 = (u4 : Int) := by rw [hu4]; exact lo_is k2
  have ea5 : IntKind.u64.wrap ((limb a 2).tdiv 4294967296) = (u5 : Int) := by rw [hu5]; exact hi_is k2 q2
  have eb4 : (limb b 2).tmod 4294967296 = (v4 : Int) := by rw [hv4]; exact lo_is m2
  have eb5 : IntKind.u64.wrap ((limb b 2).tdiv 4294967296) = (v5 : Int) := by rw [hv5]; exact hi_is m2 r2
  obtain ⟨u6, hu6, bu6⟩ : ∃ u, u = c3 % 4294967296 ∧ u < 4294967296 := ⟨_, rfl, Nat.mod_lt _ (by decide)⟩
  obtain ⟨u7, hu7, bu7⟩ : ∃ u, u = c3 / 4294967296 ∧ u < 4294967296 := ⟨_, rfl, dv_lt q3⟩
  obtain ⟨v6, hv6, bv6⟩ : ∃ u, u = d3 % 4294967296 ∧ u < 4294967296 := ⟨_, rfl, Nat.mod_lt _ (by decide)⟩
  obtain ⟨v7, hv7, bv7⟩ : ∃ u, u = d3 / 4294967296 ∧ u < 4294967296 := ⟨_, rfl, dv_lt r3⟩
  have ea6 : (limb a 3).tmod 4294967296 = (u6 : Int) := by rw [hu6]; exact lo_is k3
  have ea7 : IntKind.u64.wrap ((limb a 3).tdiv 4294967296) = (u7 : Int) := by rw [hu7]; exact hi_is k3 q3
  have eb6 : (limb b 3).tmod 4294967296 = (v6 : Int) := by rw [hv6]; exact lo_is m3
  have eb7 : IntKind.u64.wrap ((limb b 3).tdiv 4294967296) = (v7 : Int) := by rw [hv7]; exact hi_is m3 r3
  have lo := fun {z : Int} {c : Nat} (h : z = (c : Int)) => lo_is h
  obtain ⟨zz, hzz⟩ : ∃ z : Nat, z = 0 := ⟨_, rfl⟩
  have z0 : (0 : Int) = (zz : Int) := by rw [hzz]; rfl
  have zb : zz < 4294967296 := by omega
  have mb : ∀ v : Nat, v % 4294967296 < 4294967296 := fun v => Nat.mod_lt v (by decide)
  intro x1 x2 x3 x4 x5 x6 x7 x8 x9 x10 x11 x12 x13 x14 x15 x16 x17 x18 x19 x20 x21 x22 x23 x24 x25 x26 x27 x28 x29 x30 x31 x32 x33 x34 x35 x36 x37 x38 x39 x40 x41 x42 x43 x44 x45 x46 x47 x48 x49 x50 x51 x52 x53 x54 x55 x56 x57 x58 x59 x60 x61 x62 x63 x64 x65 x66 x67 x68 x69 x70 x71 x72 x73
  have dv : ∀ {v : Nat}, v < 18446744073709551616 → v / 4294967296 < 4294967296 := fun h => dv_lt h
  have ey0 : x1 = (v0 : Int) := eb0
  obtain ⟨s00, hs00, es00, bs00⟩ : ∃ S : Nat, S = u0 * v0 + zz + zz ∧ x2 = (S : Int) ∧ S < 18446744073709551616 := ⟨_, rfl, s_is ea0 ey0 z0 z0 bu0 bv0 zb zb⟩
  have ey1 : x3 = (v1 : Int) := eb1
  obtain ⟨s01, hs01, es01, bs01⟩ : ∃ S : Nat, S = u0 * v1 + zz + (s00 / 4294967296) ∧ x4 = (S : Int) ∧ S < 18446744073709551616 := ⟨_, rfl, s_is ea0 ey1 z0 (hi_is es00 bs00) bu0 bv1 zb (dv bs00)⟩
  obtain ⟨s10, hs10, es10, bs10⟩ : ∃ S : Nat, S = u1 * v0 + (s01 % 4294967296) + zz ∧ x5 = (S : Int) ∧ S < 18446744073709551616 := ⟨_, rfl, s_is ea1 ey0 (lo_is es01) z0 bu1 bv0 (mb _) zb⟩
  have ey2 : x6 = (v2 : Int) := eb2
  obtain ⟨s02, hs02, es02, bs02⟩ : ∃ S : Nat, S = u0 * v2 + zz + (s01 / 4294967296) ∧ x7 = (S : Int) ∧ S < 18446744073709551616 := ⟨_, rfl, s_is ea0 ey2 z0 (hi_is es01 bs01) bu0 bv2 zb (dv bs01)⟩
  obtain ⟨s11, hs11, es11, bs11⟩ : ∃ S : Nat, S = u1 * v1 + (s02 % 4294967296) + (s10 / 4294967296) ∧ x8 = (S : Int) ∧ S < 18446744073709551616 := ⟨_, rfl, s_is ea1 ey1 (lo_is es02) (hi_is es10 bs10) bu1 bv1 (mb _) (dv bs10)⟩
  obtain ⟨s20, hs20, es20, bs20⟩ : ∃ S : Nat, S = u2 * v0 + (s11 % 4294967296) + zz ∧ x9 = (S : Int) ∧ S < 18446744073709551616 := ⟨_, rfl, s_is ea2 ey0 (lo_is es11) z0 bu2 bv0 (mb _) zb⟩
  have ey3 : x10 = (v3 : Int) := eb3
  obtain ⟨s03, hs03, es03, bs03⟩ : ∃ S : Nat, S = u0 * v3 + zz + (s02 / 4294967296) ∧ x11 = (S : Int) ∧ S < 18446744073709551616 := ⟨_, rfl, s_is ea0 ey3 z0 (hi_is es02 bs02) bu0 bv3 zb (dv bs02)⟩
  obtain ⟨s12, hs12, es12, bs12⟩ : ∃ S : Nat, S = u1 * v2 + (s03 % 4294967296) + (s11 / 4294967296) ∧ x12 = (S : Int) ∧ S < 18446744073709551616 := ⟨_, rfl, s_is ea1 ey2 (lo_is es03) (hi_is es11 bs11) bu1 bv2 (mb _) (dv bs11)⟩
  obtain ⟨s21, hs21, es21, bs21⟩ : ∃ S : Nat, S = u2 * v1 + (s12 % 4294967296) + (s20 / 4294967296) ∧ x13 = (S : Int) ∧ S < 18446744073709551616 := ⟨_, rfl, s_is ea2 ey1 (lo_is es12) (hi_is es20 bs20) bu2 bv1 (mb _) (dv bs20)⟩
  obtain ⟨s30, hs30, es30, bs30⟩ : ∃ S : Nat, S = u3 * v0 + (s21 % 4294967296) + zz ∧ x14 = (S : Int) ∧ S < 18446744073709551616 := ⟨_, rfl, s_is ea3 ey0 (lo_is es21) z0 bu3 bv0 (mb _) zb⟩
  have ey4 : x15 = (v4 : Int) := eb4
  obtain ⟨s04, hs04, es04, bs04⟩ : ∃ S : Nat, S = u0 * v4 + zz + (s03 / 4294967296) ∧ x16 = (S : Int) ∧ S < 18446744073709551616 := ⟨_, rfl, s_is ea0 ey4 z0 (hi_is es03 bs03) bu0 bv4 zb (dv bs03)⟩
  obtain ⟨s13, hs13, es13, bs13⟩ : ∃ S : Nat, S = u1 * v3 + (s04 % 4294967296) + (s12 / 4294967296) ∧ x17 = (S : Int) ∧ S < 18446744073709551616 := ⟨_, rfl, s_is ea1 ey3 (lo_is es04) (hi_is es12 bs12) bu1 bv3 (mb _) (dv bs12)⟩
  obtain ⟨s22, hs22, es22, bs22⟩ : ∃ S : Nat, S = u2 * v2 + (s13 % 4294967296) + (s21 / 4294967296) ∧ x18 = (S : Int) ∧ S < 18446744073709551616 := ⟨_, rfl, s_is ea2 ey2 (lo_is es13) (hi_is es21 bs21) bu2 bv2 (mb _) (dv bs21)⟩
  obtain ⟨s31, hs31, es31, bs31⟩ : ∃ S : Nat, S = u3 * v1 + (s22 % 4294967296) + (s30 / 4294967296) ∧ x19 = (S : Int) ∧ S < 18446744073709551616 := ⟨_, rfl, s_is ea3 ey1 (lo_is es22) (hi_is es30 bs30) bu3 bv1 (mb _) (dv bs30)⟩
  obtain ⟨s40, hs40, es40, bs40⟩ : ∃ S : Nat, S = u4 * v0 + (s31 % 4294967296) + zz ∧ x20 = (S : Int) ∧ S < 18446744073709551616 := ⟨_, rfl, s_is ea4 ey0 (lo_is es31) z0 bu4 bv0 (mb _) zb⟩
  have ey5 : x21 = (v5 : Int) := eb5
  obtain ⟨s05, hs05, es05, bs05⟩ : ∃ S : Nat, S = u0 * v5 + zz + (s04 / 4294967296) ∧ x22 = (S : Int) ∧ S < 18446744073709551616 := ⟨_, rfl, s_is ea0 ey5 z0 (hi_is es04 bs04) bu0 bv5 zb (dv bs04)⟩
  obtain ⟨s14, hs14, es14, bs14⟩ : ∃ S : Nat, S = u1 * v4 + (s05 % 4294967296) + (s13 / 4294967296) ∧ x23 = (S : Int) ∧ S < 18446744073709551616 := ⟨_, rfl, s_is ea1 ey4 (lo_is es05) (hi_is es13 bs13) bu1 bv4 (mb _) (dv bs13)⟩
  obtain ⟨s23, hs23, es23, bs23⟩ : ∃ S : Nat, S = u2 * v3 + (s14 % 4294967296) + (s22 / 4294967296) ∧ x24 = (S : Int) ∧ S < 18446744073709551616 := ⟨_, rfl, s_is ea2 ey3 (lo_is es14) (hi_is es22 bs22) bu2 bv3 (mb _) (dv bs22)⟩
  obtain ⟨s32, hs32, es32, bs32⟩ : ∃ S : Nat, S = u3 * v2 + (s23 % 4294967296) + (s31 / 4294967296) ∧ x25 = (S : Int) ∧ S < 18446744073709551616 := ⟨_, rfl, s_is ea3 ey2 (lo_is es23) (hi_is es31 bs31) bu3 bv2 (mb _) (dv bs31)⟩
  obtain ⟨s41, hs41, es41, bs41⟩ : ∃ S : Nat, S = u4 * v1 + (s32 % 4294967296) + (s40 / 4294967296) ∧ x26 = (S : Int) ∧ S < 18446744073709551616 := ⟨_, rfl, s_is ea4 ey1 (lo_is es32) (hi_is es40 bs40) bu4 bv1 (mb _) (dv bs40)⟩
  obtain ⟨s50, hs50, es50, bs50⟩ : ∃ S : Nat, S = u5 * v0 + (s41 % 4294967296) + zz ∧ x27 = (S : Int) ∧ S < 18446744073709551616 := ⟨_, rfl, s_is ea5 ey0 (lo_is es41) z0 bu5 bv0 (mb _) zb⟩
  have ey6 : x28 = (v6 : Int) := eb6
  obtain ⟨s06, hs06, es06, bs06⟩ : ∃ S : Nat, S = u0 * v6 + zz + (s05 / 4294967296) ∧ x29 = (S : Int) ∧ S < 18446744073709551616 := ⟨_, rfl, s_is ea0 ey6 z0 (hi_is es05 bs05) bu0 bv6 zb (dv bs05)⟩
  obtain ⟨s15, hs15, es15, bs15⟩ : ∃ S : Nat, S = u1 * v5 + (s06 % 4294967296) + (s14 / 4294967296) ∧ x30 = (S : Int) ∧ S < 18446744073709551616 := ⟨_, rfl, s_is ea1 ey5 (lo_is es06) (hi_is es14 bs14) bu1 bv5 (mb _) (dv bs14)⟩
  obtain ⟨s24, hs24, es24, bs24⟩ : ∃ S : Nat, S = u2 * v4 + (s15 % 4294967296) + (s23 / 4294967296) ∧ x31 = (S : Int) ∧ S < 18446744073709551616 := ⟨_, rfl, s_is ea2 ey4 (lo_is es15) (hi_is es23 bs23) bu2 bv4 (mb _) (dv bs23)⟩
  obtain ⟨s33, hs33, es33, bs33⟩ : ∃ S : Nat, S = u3 * v3 + (s24 % 4294967296) + (s32 / 4294967296) ∧ x32 = (S : Int) ∧ S < 18446744073709551616 := ⟨_, rfl, s_is ea3 ey3 (lo_is es24) (hi_is es32 bs32) bu3 bv3 (mb _) (dv bs32)⟩
  obtain ⟨s42, hs42, es42, bs42⟩ : ∃ S : Nat, S = u4 * v2 + (s33 % 4294967296) + (s41 / 4294967296) ∧ x33 = (S : Int) ∧ S < 18446744073709551616 := ⟨_, rfl, s_is ea4 ey2 (lo_is es33) (hi_is es41 bs41) bu4 bv2 (mb _) (dv bs41)⟩
  obtain ⟨s51, hs51, es51, bs51⟩ : ∃ S : Nat, S = u5 * v1 + (s42 % 4294967296) + (s50 / 4294967296) ∧ x34 = (S : Int) ∧ S < 18446744073709551616 := ⟨_, rfl, s_is ea5 ey1 (lo_is es42) (hi_is es50 bs50) bu5 bv1 (mb _) (dv bs50)⟩
  obtain ⟨s60, hs60, es60, bs60⟩ : ∃ S : Nat, S = u6 * v0 + (s51 % 4294967296) + zz ∧ x35 = (S : Int) ∧ S < 18446744073709551616 := ⟨_, rfl, s_is ea6 ey0 (lo_is es51) z0 bu6 bv0 (mb _) zb⟩
  have ey7 : x36 = (v7 : Int) := eb7
  obtain ⟨s07, hs07, es07, bs07⟩ : ∃ S : Nat, S = u0 * v7 + zz + (s06 / 4294967296) ∧ x37 = (S : Int) ∧ S < 18446744073709551616 := ⟨_, rfl, s_is ea0 ey7 z0 (hi_is es06 bs06) bu0 bv7 zb (dv bs06)⟩
  obtain ⟨s16, hs16, es16, bs16⟩ : ∃ S : Nat, S = u1 * v6 + (s07 % 4294967296) + (s15 / 4294967296) ∧ x38 = (S : Int) ∧ S < 18446744073709551616 := ⟨_, rfl, s_is ea1 ey6 (lo_is es07) (hi_is es15 bs15) bu1 bv6 (mb _) (dv bs15)⟩
  obtain ⟨s25, hs25, es25, bs25⟩ : ∃ S : Nat, S = u2 * v5 + (s16 % 4294967296) + (s24 / 4294967296) ∧ x39 = (S : Int) ∧ S < 18446744073709551616 := ⟨_, rfl, s_is ea2 ey5 (lo_is es16) (hi_is es24 bs24) bu2 bv5 (mb _) (dv bs24)⟩
  obtain ⟨s34, hs34, es34, bs34⟩ : ∃ S : Nat, S = u3 * v4 + (s25 % 4294967296) + (s33 / 4294967296) ∧ x40 = (S : Int) ∧ S < 18446744073709551616 := ⟨_, rfl, s_is ea3 ey4 (lo_is es25) (hi_is es33 bs33) bu3 bv4 (mb _) (dv bs33)⟩
  obtain ⟨s43, hs43, es43, bs43⟩ : ∃ S : Nat, S = u4 * v3 + (s34 % 4294967296) + (s42 / 4294967296) ∧ x41 = (S : Int) ∧ S < 18446744073709551616 := ⟨_, rfl, s_is ea4 ey3 (lo_is es34) (hi_is es42 bs42) bu4 bv3 (mb _) (dv bs42)⟩
  obtain ⟨s52, hs52, es52, bs52⟩ : ∃ S : Nat, S = u5 * v2 + (s43 % 4294967296) + (s51 / 4294967296) ∧ x42 = (S : Int) ∧ S < 18446744073709551616 := ⟨_, rfl, s_is ea5 ey2 (lo_is es43) (hi_is es51 bs51) bu5 bv2 (mb _) (dv bs51)⟩
  obtain ⟨s61, hs61, es61, bs61⟩ : ∃ S : Nat, S = u6 * v1 + (s52 % 4294967296) + (s60 / 4294967296) ∧ x43 = (S : Int) ∧ S < 18446744073709551616 := ⟨_, rfl, s_is ea6 ey1 (lo_is es52) (hi_is es60 bs60) bu6 bv1 (mb _) (dv bs60)⟩
  obtain ⟨s70, hs70, es70, bs70⟩ : ∃ S : Nat, S = u7 * v0 + (s61 % 4294967296) + zz ∧ x44 = (S : Int) ∧ S < 18446744073709551616 := ⟨_, rfl, s_is ea7 ey0 (lo_is es61) z0 bu7 bv0 (mb _) zb⟩
  obtain ⟨s17, hs17, es17, bs17⟩ : ∃ S : Nat, S = u1 * v7 + (s07 / 4294967296) + (s16 / 4294967296) ∧ x46 = (S : Int) ∧ S < 18446744073709551616 := ⟨_, rfl, s_is ea1 ey7 (hi_is es07 bs07) (hi_is es16 bs16) bu1 bv7 (dv bs07) (dv bs16)⟩
  obtain ⟨s26, hs26, es26, bs26⟩ : ∃ S : Nat, S = u2 * v6 + (s17 % 4294967296) + (s25 / 4294967296) ∧ x47 = (S : Int) ∧ S < 18446744073709551616 := ⟨_, rfl, s_is ea2 ey6 (lo_is es17) (hi_is es25 bs25) bu2 bv6 (mb _) (dv bs25)⟩
  obtain ⟨s35, hs35, es35, bs35⟩ : ∃ S : Nat, S = u3 * v5 + (s26 % 4294967296) + (s34 / 4294967296) ∧ x48 = (S : Int) ∧ S < 18446744073709551616 := ⟨_, rfl, s_is ea3 ey5 (lo_is es26) (hi_is es34 bs34) bu3 bv5 (mb _) (dv bs34)⟩
  obtain ⟨s44, hs44, es44, bs44⟩ : ∃ S : Nat, S = u4 * v4 + (s35 % 4294967296) + (s43 / 4294967296) ∧ x49 = (S : Int) ∧ S < 18446744073709551616 := ⟨_, rfl, s_is ea4 ey4 (lo_is es35) (hi_is es43 bs43) bu4 bv4 (mb _) (dv bs43)⟩
  obtain ⟨s53, hs53, es53, bs53⟩ : ∃ S : Nat, S = u5 * v3 + (s44 % 4294967296) + (s52 / 4294967296) ∧ x50 = (S : Int) ∧ S < 18446744073709551616 := ⟨_, rfl, s_is ea5 ey3 (lo_is es44) (hi_is es52 bs52) bu5 bv3 (mb _) (dv bs52)⟩
  obtain ⟨s62, hs62, es62, bs62⟩ : ∃ S : Nat, S = u6 * v2 + (s53 % 4294967296) + (s61 / 4294967296) ∧ x51 = (S : Int) ∧ S < 18446744073709551616 := ⟨_, rfl, s_is ea6 ey2 (lo_is es53) (hi_is es61 bs61) bu6 bv2 (mb _) (dv bs61)⟩
  obtain ⟨s71, hs71, es71, bs71⟩ : ∃ S : Nat, S = u7 * v1 + (s62 % 4294967296) + (s70 / 4294967296) ∧ x52 = (S : Int) ∧ S < 18446744073709551616 := ⟨_, rfl, s_is ea7 ey1 (lo_is es62) (hi_is es70 bs70) bu7 bv1 (mb _) (dv bs70)⟩
  obtain ⟨s27, hs27, es27, bs27⟩ : ∃ S : Nat, S = u2 * v7 + (s17 / 4294967296) + (s26 / 4294967296) ∧ x53 = (S : Int) ∧ S < 18446744073709551616 := ⟨_, rfl, s_is ea2 ey7 (hi_is es17 bs17) (hi_is es26 bs26) bu2 bv7 (dv bs17) (dv bs26)⟩
  obtain ⟨s36, hs36, es36, bs36⟩ : ∃ S : Nat, S = u3 * v6 + (s27 % 4294967296) + (s35 / 4294967296) ∧ x54 = (S : Int) ∧ S < 18446744073709551616 := ⟨_, rfl, s_is ea3 ey6 (lo_is es27) (hi_is es35 bs35) bu3 bv6 (mb _) (dv bs35)⟩
  obtain ⟨s45, hs45, es45, bs45⟩ : ∃ S : Nat, S = u4 * v5 + (s36 % 4294967296) + (s44 / 4294967296) ∧ x55 = (S : Int) ∧ S < 18446744073709551616 := ⟨_, rfl, s_is ea4 ey5 (lo_is es36) (hi_is es44 bs44) bu4 bv5 (mb _) (dv bs44)⟩
  obtain ⟨s54, hs54, es54, bs54⟩ : ∃ S : Nat, S = u5 * v4 + (s45 % 4294967296) + (s53 / 4294967296) ∧ x56 = (S : Int) ∧ S < 18446744073709551616 := ⟨_, rfl, s_is ea5 ey4 (lo_is es45) (hi_is es53 bs53) bu5 bv4 (mb _) (dv bs53)⟩
  obtain ⟨s63, hs63, es63, bs63⟩ : ∃ S : Nat, S = u6 * v3 + (s54 % 4294967296) + (s62 / 4294967296) ∧ x57 = (S : Int) ∧ S < 18446744073709551616 := ⟨_, rfl, s_is ea6 ey3 (lo_is es54) (hi_is es62 bs62) bu6 bv3 (mb _) (dv bs62)⟩
  obtain ⟨s72, hs72, es72, bs72⟩ : ∃ S : Nat, S = u7 * v2 + (s63 % 4294967296) + (s71 / 4294967296) ∧ x58 = (S : Int) ∧ S < 18446744073709551616 := ⟨_, rfl, s_is ea7 ey2 (lo_is es63) (hi_is es71 bs71) bu7 bv2 (mb _) (dv bs71)⟩
  obtain ⟨s37, hs37, es37, bs37⟩ : ∃ S : Nat, S = u3 * v7 + (s27 / 4294967296) + (s36 / 4294967296) ∧ x59 = (S : Int) ∧ S < 18446744073709551616 := ⟨_, rfl, s_is ea3 ey7 (hi_is es27 bs27) (hi_is es36 bs36) bu3 bv7 (dv bs27) (dv bs36)⟩
  obtain ⟨s46, hs46, es46, bs46⟩ : ∃ S : Nat, S = u4 * v6 + (s37 % 4294967296) + (s45 / 4294967296) ∧ x60 = (S : Int) ∧ S < 18446744073709551616 := ⟨_, rfl, s_is ea4 ey6 (lo_is es37) (hi_is es45 bs45) bu4 bv6 (mb _) (dv bs45)⟩
  obtain ⟨s55, hs55, es55, bs55⟩ : ∃ S : Nat, S = u5 * v5 + (s46 % 4294967296) + (s54 / 4294967296) ∧ x61 = (S : Int) ∧ S < 18446744073709551616 := ⟨_, rfl, s_is ea5 ey5 (lo_is es46) (hi_is es54 bs54) bu5 bv5 (mb _) (dv bs54)⟩
  obtain ⟨s64, hs64, es64, bs64⟩ : ∃ S : Nat, S = u6 * v4 + (s55 % 4294967296) + (s63 / 4294967296) ∧ x62 = (S : Int) ∧ S < 18446744073709551616 := ⟨_, rfl, s_is ea6 ey4 (lo_is es55) (hi_is es63 bs63) bu6 bv4 (mb _) (dv bs63)⟩
  obtain ⟨s73, hs73, es73, bs73⟩ : ∃ S : Nat, S = u7 * v3 + (s64 % 4294967296) + (s72 / 4294967296) ∧ x63 = (S : Int) ∧ S < 18446744073709551616 := ⟨_, rfl, s_is ea7 ey3 (lo_is es64) (hi_is es72 bs72) bu7 bv3 (mb _) (dv bs72)⟩
  obtain ⟨s47, hs47, es47, bs47⟩ : ∃ S : Nat, S = u4 * v7 + (s37 / 4294967296) + (s46 / 4294967296) ∧ x64 = (S : Int) ∧ S < 18446744073709551616 := ⟨_, rfl, s_is ea4 ey7 (hi_is es37 bs37) (hi_is es46 bs46) bu4 bv7 (dv bs37) (dv bs46)⟩
  obtain ⟨s56, hs56, es56, bs56⟩ : ∃ S : Nat, S = u5 * v6 + (s47 % 4294967296) + (s55 / 4294967296) ∧ x65 = (S : Int) ∧ S < 18446744073709551616 := ⟨_, rfl, s_is ea5 ey6 (lo_is es47) (hi_is es55 bs55) bu5 bv6 (mb _) (dv bs55)⟩
  obtain ⟨s65, hs65, es65, bs65⟩ : ∃ S : Nat, S = u6 * v5 + (s56 % 4294967296) + (s64 / 4294967296) ∧ x66 = (S : Int) ∧ S < 18446744073709551616 := ⟨_, rfl, s_is ea6 ey5 (lo_is es56) (hi_is es64 bs64) bu6 bv5 (mb _) (dv bs64)⟩
  obtain ⟨s74, hs74, es74, bs74⟩ : ∃ S : Nat, S = u7 * v4 + (s65 % 4294967296) + (s73 / 4294967296) ∧ x67 = (S : Int) ∧ S < 18446744073709551616 := ⟨_, rfl, s_is ea7 ey4 (lo_is es65) (hi_is es73 bs73) bu7 bv4 (mb _) (dv bs73)⟩
  obtain ⟨s57, hs57, es57, bs57⟩ : ∃ S : Nat, S = u5 * v7 + (s47 / 4294967296) + (s56 / 4294967296) ∧ x68 = (S : Int) ∧ S < 18446744073709551616 := ⟨_, rfl, s_is ea5 ey7 (hi_is es47 bs47) (hi_is es56 bs56) bu5 bv7 (dv bs47) (dv bs56)⟩
  obtain ⟨s66, hs66, es66, bs66⟩ : ∃ S : Nat, S = u6 * v6 + (s57 % 4294967296) + (s65 / 4294967296) ∧ x69 = (S : Int) ∧ S < 18446744073709551616 := ⟨_, rfl, s_is ea6 ey6 (lo_is es57) (hi_is es65 bs65) bu6 bv6 (mb _) (dv bs65)⟩
  obtain ⟨s75, hs75, es75, bs75⟩ : ∃ S : Nat, S = u7 * v5 + (s66 % 4294967296) + (s74 / 4294967296) ∧ x70 = (S : Int) ∧ S < 18446744073709551616 := ⟨_, rfl, s_is ea7 ey5 (lo_is es66) (hi_is es74 bs74) bu7 bv5 (mb _) (dv bs74)⟩
  obtain ⟨s67, hs67, es67, bs67⟩ : ∃ S : Nat, S = u6 * v7 + (s57 / 4294967296) + (s66 / 4294967296) ∧ x71 = (S : Int) ∧ S < 18446744073709551616 := ⟨_, rfl, s_is ea6 ey7 (hi_is es57 bs57) (hi_is es66 bs66) bu6 bv7 (dv bs57) (dv bs66)⟩
  obtain ⟨s76, hs76, es76, bs76⟩ : ∃ S : Nat, S = u7 * v6 + (s67 % 4294967296) + (s75 / 4294967296) ∧ x72 = (S : Int) ∧ S < 18446744073709551616 := ⟨_, rfl, s_is ea7 ey6 (lo_is es67) (hi_is es75 bs75) bu7 bv6 (mb _) (dv bs75)⟩
  obtain ⟨s77, hs77, es77, bs77⟩ : ∃ S : Nat, S = u7 * v7 + (s67 / 4294967296) + (s76 / 4294967296) ∧ x73 = (S : Int) ∧ S < 18446744073709551616 := ⟨_, rfl, s_is ea7 ey7 (hi_is es67 bs67) (hi_is es76 bs76) bu7 bv7 (dv bs67) (dv bs76)⟩
  have V0 := row8 hzz hs00 hs01 hs02 hs03 hs04 hs05 hs06 hs07
  have V1 := row8 hzz hs10 hs11 hs12 hs13 hs14 hs15 hs16 hs17
  have V2 := row8 hzz hs20 hs21 hs22 hs23 hs24 hs25 hs26 hs27
  have V3 := row8 hzz hs30 hs31 hs32 hs33 hs34 hs35 hs36 hs37
  have V4 := row8 hzz hs40 hs41 hs42 hs43 hs44 hs45 hs46 hs47
  have V5 := row8 hzz hs50 hs51 hs52 hs53 hs54 hs55 hs56 hs57
  have V6 := row8 hzz hs60 hs61 hs62 hs63 hs64 hs65 hs66 hs67
  have V7 := row8 hzz hs70 hs71 hs72 hs73 hs74 hs75 hs76 hs77
  have hP0 : (0 : Nat) + 4294967296 * (0 + 4294967296 * (0 + 4294967296 * (0 + 4294967296 * (0 + 4294967296 * (0 + 4294967296 * (0 + 4294967296 * 0)))))) = 0 := by decide
  rw [hzz, hP0, Nat.add_zero] at V0
  have hT := total8 (l0 := s00 % 4294967296) (l1 := s10 % 4294967296) (l2 := s20 % 4294967296) (l3 := s30 % 4294967296) (l4 := s40 % 4294967296) (l5 := s50 % 4294967296) (l6 := s60 % 4294967296) V0 V1 V2 V3 V4 V5 V6 V7
  have pv0 : v0 + 4294967296 * v1 = d0 := by rw [hv0, hv1]; exact Nat.mod_add_div _ _
  have pv1 : v2 + 4294967296 * v3 = d1 := by rw [hv2, hv3]; exact Nat.mod_add_div _ _
  have pv2 : v4 + 4294967296 * v5 = d2 := by rw [hv4, hv5]; exact Nat.mod_add_div _ _
  have pv3 : v6 + 4294967296 * v7 = d3 := by rw [hv6, hv7]; exact Nat.mod_add_div _ _
  have pu0 : u0 + 4294967296 * u1 = c0 := by rw [hu0, hu1]; exact Nat.mod_add_div _ _
  have pu1 : u2 + 4294967296 * u3 = c1 := by rw [hu2, hu3]; exact Nat.mod_add_div _ _
  have pu2 : u4 + 4294967296 * u5 = c2 := by rw [hu4, hu5]; exact Nat.mod_add_div _ _
  have pu3 : u6 + 4294967296 * u7 = c3 := by rw [hu6, hu7]; exact Nat.mod_add_div _ _
  have hY : v0 + 4294967296 * (v1 + 4294967296 * (v2 + 4294967296 * (v3 + 4294967296 * (v4 + 4294967296 * (v5 + 4294967296 * (v6 + 4294967296 * (v7))))))) = b % M256 := by rw [pair2, pair2, pair2, pv0, pv1, pv2, pv3, tail4, hB]
  have hX : u0 + 4294967296 * (u1 + 4294967296 * (u2 + 4294967296 * (u3 + 4294967296 * (u4 + 4294967296 * (u5 + 4294967296 * (u6 + 4294967296 * (u7))))))) = a % M256 := by rw [pair2, pair2, pair2, pu0, pu1, pu2, pu3, tail4, hA]
  have hP : u0 * (b % M256) + 4294967296 * (u1 * (b % M256) + 4294967296 * (u2 * (b % M256) + 4294967296 * (u3 * (b % M256) + 4294967296 * (u4 * (b % M256) + 4294967296 * (u5 * (b % M256) + 4294967296 * (u6 * (b % M256) + 4294967296 * (u7 * (b % M256)))))))) = a % M256 * (b % M256) := by
    rw [← hX]
    simp only [Nat.add_mul, Nat.mul_assoc]
  rw [hY] at hT
  rw [hP] at hT
  rw [pair2, pair2, pair2, pair2, pair2, pair2, pair2] at hT
  obtain ⟨D0, hD0⟩ : ∃ D, D = s00 % 4294967296 + 4294967296 * (s10 % 4294967296) := ⟨_, rfl⟩
  obtain ⟨D1, hD1⟩ : ∃ D, D = s20 % 4294967296 + 4294967296 * (s30 % 4294967296) := ⟨_, rfl⟩
  obtain ⟨D2, hD2⟩ : ∃ D, D = s40 % 4294967296 + 4294967296 * (s50 % 4294967296) := ⟨_, rfl⟩
  obtain ⟨D3, hD3⟩ : ∃ D, D = s60 % 4294967296 + 4294967296 * (s70 % 4294967296) := ⟨_, rfl⟩
  obtain ⟨D4, hD4⟩ : ∃ D, D = s71 % 4294967296 + 4294967296 * (s72 % 4294967296) := ⟨_, rfl⟩
  obtain ⟨D5, hD5⟩ : ∃ D, D = s73 % 4294967296 + 4294967296 * (s74 % 4294967296) := ⟨_, rfl⟩
  obtain ⟨D6, hD6⟩ : ∃ D, D = s75 % 4294967296 + 4294967296 * (s76 % 4294967296) := ⟨_, rfl⟩
  obtain ⟨D7, hD7⟩ : ∃ D, D = s77 % 4294967296 + 4294967296 * (s77 / 4294967296) := ⟨_, rfl⟩
  rw [← hD0, ← hD1, ← hD2, ← hD3, ← hD4, ← hD5, ← hD6, ← hD7] at hT
  have bD0 : D0 < 18446744073709551616 := by rw [hD0]; exact two_lt (mb _) (mb _)
  have bD1 : D1 < 18446744073709551616 := by rw [hD1]; exact two_lt (mb _) (mb _)
  have bD2 : D2 < 18446744073709551616 := by rw [hD2]; exact two_lt (mb _) (mb _)
  have bD3 : D3 < 18446744073709551616 := by rw [hD3]; exact two_lt (mb _) (mb _)
  have bD4 : D4 < 18446744073709551616 := by rw [hD4]; exact two_lt (mb _) (mb _)
  have bD5 : D5 < 18446744073709551616 := by rw [hD5]; exact two_lt (mb _) (mb _)
  have bD6 : D6 < 18446744073709551616 := by rw [hD6]; exact two_lt (mb _) (mb _)
  have bD7 : D7 < 18446744073709551616 := by rw [hD7]; exact two_lt (mb _) (dv bs77)
  rw [quad, tail4] at hT
  have lowlt : ((D3 * 18446744073709551616 + D2) * 18446744073709551616 + D1) * 18446744073709551616 + D0 < M256 := four_lt bD0 bD1 bD2 bD3
  have highlt : ((D7 * 18446744073709551616 + D6) * 18446744073709551616 + D5) * 18446744073709551616 + D4 < M256 := four_lt bD4 bD5 bD6 bD7
  have hlow : (a * b) % M256 = ((D3 * 18446744073709551616 + D2) * 18446744073709551616 + D1) * 18446744073709551616 + D0 := by
    rw [Nat.mul_mod, ← hT, ← M256_eq, Nat.add_mul_mod_self_left, Nat.mod_eq_of_lt lowlt]
  have hhigh : a % M256 * (b % M256) / M256 = ((D7 * 18446744073709551616 + D6) * 18446744073709551616 + D5) * 18446744073709551616 + D4 := by
    rw [← hT, ← M256_eq, Nat.add_mul_div_left _ _ (by rw [M256_eq]; decide), Nat.div_eq_of_lt lowlt, Nat.zero_add]
  obtain ⟨L0, L1, L2, L3⟩ := limbs_are hlow bD0 bD1 bD2
  obtain ⟨L4, L5, L6, L7⟩ := limbs_are (n := a % M256 * (b % M256) / M256) (by rw [hhigh, Nat.mod_eq_of_lt highlt]) bD4 bD5 bD6
  have w0 : IntKind.u64.wrap ((BitVec.ofInt 64 (IntKind.u64.wrap ((BitVec.ofInt 64 (0 : Int) ||| BitVec.ofInt 64 (IntKind.u64.wrap (x2.tmod 4294967296 * 1))).toNat : Int)) ||| BitVec.ofInt 64 (IntKind.u64.wrap (x5.tmod 4294967296 * 4294967296))).toNat : Int) = (D0 : Int) := by
    rw [lo_is es00, lo_is es10, hD0]
    exact or_two (mb _) (mb _)
  have w1 : IntKind.u64.wrap ((BitVec.ofInt 64 (IntKind.u64.wrap ((BitVec.ofInt 64 (0 : Int) ||| BitVec.ofInt 64 (IntKind.u64.wrap (x9.tmod 4294967296 * 1))).toNat : Int)) ||| BitVec.ofInt 64 (IntKind.u64.wrap (x14.tmod 4294967296 * 4294967296))).toNat : Int) = (D1 : Int) := by
    rw [lo_is es20, lo_is es30, hD1]
    exact or_two (mb _) (mb _)
  have w2 : IntKind.u64.wrap ((BitVec.ofInt 64 (IntKind.u64.wrap ((BitVec.ofInt 64 (0 : Int) ||| BitVec.ofInt 64 (IntKind.u64.wrap (x20.tmod 4294967296 * 1))).toNat : Int)) ||| BitVec.ofInt 64 (IntKind.u64.wrap (x27.tmod 4294967296 * 4294967296))).toNat : Int) = (D2 : Int) := by
    rw [lo_is es40, lo_is es50, hD2]
    exact or_two (mb _) (mb _)
  have w3 : IntKind.u64.wrap ((BitVec.ofInt 64 (IntKind.u64.wrap ((BitVec.ofInt 64 (0 : Int) ||| BitVec.ofInt 64 (IntKind.u64.wrap (x35.tmod 4294967296 * 1))).toNat : Int)) ||| BitVec.ofInt 64 (IntKind.u64.wrap (x44.tmod 4294967296 * 4294967296))).toNat : Int) = (D3 : Int) := by
    rw [lo_is es60, lo_is es70, hD3]
    exact or_two (mb _) (mb _)
  have w4 : IntKind.u64.wrap ((BitVec.ofInt 64 (IntKind.u64.wrap ((BitVec.ofInt 64 (0 : Int) ||| BitVec.ofInt 64 (IntKind.u64.wrap (x52.tmod 4294967296 * 1))).toNat : Int)) ||| BitVec.ofInt 64 (IntKind.u64.wrap (x58.tmod 4294967296 * 4294967296))).toNat : Int) = (D4 : Int) := by
    rw [lo_is es71, lo_is es72, hD4]
    exact or_two (mb _) (mb _)
  have w5 : IntKind.u64.wrap ((BitVec.ofInt 64 (IntKind.u64.wrap ((BitVec.ofInt 64 (0 : Int) ||| BitVec.ofInt 64 (IntKind.u64.wrap (x63.tmod 4294967296 * 1))).toNat : Int)) ||| BitVec.ofInt 64 (IntKind.u64.wrap (x67.tmod 4294967296 * 4294967296))).toNat : Int) = (D5 : Int) := by
    rw [lo_is es73, lo_is es74, hD5]
    exact or_two (mb _) (mb _)
  have w6 : IntKind.u64.wrap ((BitVec.ofInt 64 (IntKind.u64.wrap ((BitVec.ofInt 64 (0 : Int) ||| BitVec.ofInt 64 (IntKind.u64.wrap (x70.tmod 4294967296 * 1))).toNat : Int)) ||| BitVec.ofInt 64 (IntKind.u64.wrap (x72.tmod 4294967296 * 4294967296))).toNat : Int) = (D6 : Int) := by
    rw [lo_is es75, lo_is es76, hD6]
    exact or_two (mb _) (mb _)
  have w7 : IntKind.u64.wrap ((BitVec.ofInt 64 (IntKind.u64.wrap ((BitVec.ofInt 64 (0 : Int) ||| BitVec.ofInt 64 (IntKind.u64.wrap (x73.tmod 4294967296 * 1))).toNat : Int)) ||| BitVec.ofInt 64 (IntKind.u64.wrap (IntKind.u64.wrap (x73.tdiv 4294967296) * 4294967296))).toNat : Int) = (D7 : Int) := by
    rw [lo_is es77, hi_is es77 bs77, hD7]
    exact or_two (mb _) (dv bs77)
  have hb : x45 = true := by
    simp only [x45]
    rw [w0, w1, w2, w3, L0, L1, L2, L3]
    simp [conj_all]
  have hcore : (x45 && Go.Sx.conj [Go.Sx.limb (a % Go.Sx.M256 * (b % Go.Sx.M256) / Go.Sx.M256) (0 : Nat) == Go.IntKind.u64.wrap (↑(BitVec.ofInt (64 : Nat) (Go.IntKind.u64.wrap (↑(BitVec.ofInt (64 : Nat) (0 : Int) ||| BitVec.ofInt (64 : Nat) (Go.IntKind.u64.wrap (x52.tmod (4294967296 : Int) * (1 : Int)))).toNat : Int)) ||| BitVec.ofInt (64 : Nat) (Go.IntKind.u64.wrap (x58.tmod (4294967296 : Int) * (4294967296 : Int)))).toNat : Int), Go.Sx.limb (a % Go.Sx.M256 * (b % Go.Sx.M256) / Go.Sx.M256) (1 : Nat) == Go.IntKind.u64.wrap (↑(BitVec.ofInt (64 : Nat) (Go.IntKind.u64.wrap (↑(BitVec.ofInt (64 : Nat) (0 : Int) ||| BitVec.ofInt (64 : Nat) (Go.IntKind.u64.wrap (x63.tmod (4294967296 : Int) * (1 : Int)))).toNat : Int)) ||| BitVec.ofInt (64 : Nat) (Go.IntKind.u64.wrap (x67.tmod (4294967296 : Int) * (4294967296 : Int)))).toNat : Int), Go.Sx.limb (a % Go.Sx.M256 * (b % Go.Sx.M256) / Go.Sx.M256) (2 : Nat) == Go.IntKind.u64.wrap (↑(BitVec.ofInt (64 : Nat) (Go.IntKind.u64.wrap (↑(BitVec.ofInt (64 : Nat) (0 : Int) ||| BitVec.ofInt (64 : Nat) (Go.IntKind.u64.wrap (x70.tmod (4294967296 : Int) * (1 : Int)))).toNat : Int)) ||| BitVec.ofInt (64 : Nat) (Go.IntKind.u64.wrap (x72.tmod (4294967296 : Int) * (4294967296 : Int)))).toNat : Int), Go.Sx.limb (a % Go.Sx.M256 * (b % Go.Sx.M256) / Go.Sx.M256) (3 : Nat) == Go.IntKind.u64.wrap (↑(BitVec.ofInt (64 : Nat) (Go.IntKind.u64.wrap (↑(BitVec.ofInt (64 : Nat) (0 : Int) ||| BitVec.ofInt (64 : Nat) (Go.IntKind.u64.wrap (x73.tmod (4294967296 : Int) * (1 : Int)))).toNat : Int)) ||| BitVec.ofInt (64 : Nat) (Go.IntKind.u64.wrap (Go.IntKind.u64.wrap (x73.tdiv (4294967296 : Int)) * (4294967296 : Int)))).toNat : Int)]) = true := by
    rw [hb, w4, w5, w6, w7, L4, L5, L6, L7]
    simp [conj_all]
  have ap := ap_ok
  clear_value x73 x72 x71 x70 x69 x68 x67 x66 x65 x64 x63 x62 x61 x60 x59 x58 x57 x56 x55 x54 x53 x52 x51 x50 x49 x48 x47 x46 x45 x44 x43 x42 x41 x40 x39 x38 x37 x36 x35 x34 x33 x32 x31 x30 x29 x28 x27 x26 x25 x24 x23 x22 x21 x20 x19 x18 x17 x16 x15 x14 x13 x12 x11 x10 x9 x8 x7 x6 x5 x4 x3 x2 x1
  clear hT
  repeat' first
    | exact hcore
    | exact id
    | exact ap _ _ (by assumption)
    | exact (by decide : 8 ≤ 16)
    | exact Nat.le_refl _
    | apply And.intro
    | intro _
theorem cxok_WP : CxOK Try.prog cxWP := CxOK_cons card_Mul CxOK_nil
end Go.Proofs.Ytkjakddmmagjaaa
end
