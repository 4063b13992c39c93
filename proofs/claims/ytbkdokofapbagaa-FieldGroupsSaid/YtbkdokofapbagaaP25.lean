/-
  Package field: a number less another one some times; one bit; the product.
-/
import Derived.Test.YtbkdokofapbagaaP24
namespace Go.Proofs.Ytbkdokofapbagaa
open Go.Sx

theorem less_step (a P o : Int) (ha : 0 ≤ a ∧ a < 18446744073709551616) (hP : 0 ≤ P ∧ P ≤ 340282366920938463426481119284349108225) (ho : 0 ≤ o ∧ o < 18446744073709551616) :
    (0 ≤ IntKind.u64.wrap (IntKind.u64.wrap (P / 18446744073709551616 + (P % 18446744073709551616 + o + 0) / 18446744073709551616) + -((a - (P % 18446744073709551616 + o + 0) % 18446744073709551616 - 0) / 18446744073709551616)) ∧ IntKind.u64.wrap (IntKind.u64.wrap (P / 18446744073709551616 + (P % 18446744073709551616 + o + 0) / 18446744073709551616) + -((a - (P % 18446744073709551616 + o + 0) % 18446744073709551616 - 0) / 18446744073709551616)) < 18446744073709551616) ∧
    a + 18446744073709551616 * IntKind.u64.wrap (IntKind.u64.wrap (P / 18446744073709551616 + (P % 18446744073709551616 + o + 0) / 18446744073709551616) + -((a - (P % 18446744073709551616 + o + 0) % 18446744073709551616 - 0) / 18446744073709551616)) = (a - (P % 18446744073709551616 + o + 0) % 18446744073709551616 - 0) % 18446744073709551616 + P + o ∧
    (0 ≤ (a - (P % 18446744073709551616 + o + 0) % 18446744073709551616 - 0) % 18446744073709551616 ∧ (a - (P % 18446744073709551616 + o + 0) % 18446744073709551616 - 0) % 18446744073709551616 < 18446744073709551616) ∧ 0 ≤ P % 18446744073709551616 ∧ (0 ≤ (P % 18446744073709551616 + o + 0) % 18446744073709551616 ∧ (P % 18446744073709551616 + o + 0) % 18446744073709551616 < 18446744073709551616) := by
  simp only [wrap_mod]
  refine ⟨⟨?_, ?_⟩, ?_, ⟨?_, ?_⟩, ?_, ?_, ?_⟩ <;> omega
theorem prod_bound {b q : Int} (hb : 0 ≤ b ∧ b < 18446744073709551616) (hq : 0 ≤ q ∧ q < 18446744073709551616) : 0 ≤ b * q ∧ b * q ≤ 340282366920938463426481119284349108225 := by
  obtain ⟨b, rfl⟩ := Int.eq_ofNat_of_zero_le hb.1
  obtain ⟨q, rfl⟩ := Int.eq_ofNat_of_zero_le hq.1
  rw [← Int.natCast_mul]
  have := Nat.mul_le_mul (show b ≤ 18446744073709551615 by omega) (show q ≤ 18446744073709551615 by omega)
  omega
theorem less_sum {A G r0 r1 r2 r3 o hi lo : Nat} (h : A + 115792089237316195423570985008687907853269984665640564039457584007913129639936 * o = ((((r3 * 18446744073709551616 + r2) * 18446744073709551616 + r1) * 18446744073709551616 + r0) + G)) (hG : 115792089237316195423570985008687907853269984665640564039457584007913129639936 * hi + lo = G) (hlo : lo < 115792089237316195423570985008687907853269984665640564039457584007913129639936) (hA : A < 115792089237316195423570985008687907853269984665640564039457584007913129639936) (h0 : r0 < 18446744073709551616) (h1 : r1 < 18446744073709551616) (h2 : r2 < 18446744073709551616) (h3 : r3 < 18446744073709551616) :
    (((r3 * 18446744073709551616 + r2) * 18446744073709551616 + r1) * 18446744073709551616 + r0) % 115792089237316195423570985008687907853269984665640564039457584007913129639936 = (A + 115792089237316195423570985008687907853269984665640564039457584007913129639936 - lo) % 115792089237316195423570985008687907853269984665640564039457584007913129639936 ∧ (o : Int) = (hi : Int) + if A < lo then 1 else 0 := by
  split
  · refine ⟨?_, ?_⟩ <;> omega
  · refine ⟨?_, ?_⟩ <;> omega
theorem ok_fless : ∀ (a : Nat) (q : Int) (b : Nat), Ok (flessC a q b) → Owes Try.prog cxFless [] 100 Try.f82 [sU a, sI .u64 q, sU b] (flessG a q b) := by
  intro a q b hc
  obtain ⟨hq, _⟩ := hc
  rw [vc_fless]
  have hl := fun n i => (⟨limb_nonneg n i, limb_lt n i⟩ : (0 : Int) ≤ limb n i ∧ limb n i < 18446744073709551616)
  have z : (0 : Int) ≤ 0 ∧ (0 : Int) < 18446744073709551616 := by decide
  have z1 : (0 : Int) ≤ 0 ∧ (0 : Int) ≤ 1 := by decide
  obtain ⟨o0, s0, r0, p0, l0⟩ := less_step (limb a 0) (limb b 0 * q) 0 (hl a 0) (prod_bound (hl b 0) hq) z
  intro x1 x2 x3 x4 x5 x6 x7 x8
  have O0 : 0 ≤ x8 ∧ x8 < 18446744073709551616 := o0
  have S0 : limb a 0 + 18446744073709551616 * x8 = x7 % 18446744073709551616 + x1 + 0 := s0
  have R0 : 0 ≤ x7 % 18446744073709551616 ∧ x7 % 18446744073709551616 < 18446744073709551616 := r0
  have L0 : 0 ≤ x4 ∧ x4 < 18446744073709551616 := l0
  obtain ⟨o1, s1, r1, p1, l1⟩ := less_step (limb a 1) (limb b 1 * q) x8 (hl a 1) (prod_bound (hl b 1) hq) O0
  intro x9 x10 x11 x12 x13 x14
  have O1 : 0 ≤ x14 ∧ x14 < 18446744073709551616 := o1
  have S1 : limb a 1 + 18446744073709551616 * x14 = x13 % 18446744073709551616 + x5 + x8 := s1
  have R1 : 0 ≤ x13 % 18446744073709551616 ∧ x13 % 18446744073709551616 < 18446744073709551616 := r1
  have L1 : 0 ≤ x10 ∧ x10 < 18446744073709551616 := l1
  obtain ⟨o2, s2, r2, p2, l2⟩ := less_step (limb a 2) (limb b 2 * q) x14 (hl a 2) (prod_bound (hl b 2) hq) O1
  intro x15 x16 x17 x18 x19 x20
  have O2 : 0 ≤ x20 ∧ x20 < 18446744073709551616 := o2
  have S2 : limb a 2 + 18446744073709551616 * x20 = x19 % 18446744073709551616 + x11 + x14 := s2
  have R2 : 0 ≤ x19 % 18446744073709551616 ∧ x19 % 18446744073709551616 < 18446744073709551616 := r2
  have L2 : 0 ≤ x16 ∧ x16 < 18446744073709551616 := l2
  obtain ⟨o3, s3, r3, p3, l3⟩ := less_step (limb a 3) (limb b 3 * q) x20 (hl a 3) (prod_bound (hl b 3) hq) O2
  intro x21 x22 x23 x24 x25 x26 x27 x28 x29 x30
  have L3 : 0 ≤ x22 ∧ x22 < 18446744073709551616 := l3
  have R3 : 0 ≤ x27 ∧ x27 < 18446744073709551616 := r3
  have S3 : limb a 3 + 18446744073709551616 * IntKind.u64.wrap (IntKind.u64.wrap (x17 / 18446744073709551616 + x21 / 18446744073709551616) + -(x26 / 18446744073709551616)) = x27 + x17 + x20 := s3
  have O3 : 0 ≤ IntKind.u64.wrap (IntKind.u64.wrap (x17 / 18446744073709551616 + x21 / 18446744073709551616) + -(x26 / 18446744073709551616)) ∧ IntKind.u64.wrap (IntKind.u64.wrap (x17 / 18446744073709551616 + x21 / 18446744073709551616) + -(x26 / 18446744073709551616)) < 18446744073709551616 := o3
  have R0' : 0 ≤ x23 ∧ x23 < 18446744073709551616 := R0
  have R1' : 0 ≤ x24 ∧ x24 < 18446744073709551616 := R1
  have R2' : 0 ≤ x25 ∧ x25 < 18446744073709551616 := R2
  have S0' : limb a 0 + 18446744073709551616 * x8 = x23 + x1 + 0 := S0
  have S1' : limb a 1 + 18446744073709551616 * x14 = x24 + x5 + x8 := S1
  have S2' : limb a 2 + 18446744073709551616 * x20 = x25 + x11 + x14 := S2
  clear o0 s0 r0 l0 o1 s1 r1 l1 o2 s2 r2 l2 o3 s3 r3 l3 R0 R1 R2 S0 S1 S2
  have M : (join x23 x24 x25 x27 % M256 = (x28 + M256 - x30) % M256) ∧ IntKind.u64.wrap (IntKind.u64.wrap (x17 / 18446744073709551616 + x21 / 18446744073709551616) + -(x26 / 18446744073709551616)) = ((x29 / M256 : Nat) : Int) + if x28 < x30 then (1 : Int) else (0 : Int) := by
    have e1 : x1 = limb b 0 * q := rfl
    have e5 : x5 = limb b 1 * q := rfl
    have e11 : x11 = limb b 2 * q := rfl
    have e17 : x17 = limb b 3 * q := rfl
    have e28 : x28 = a % M256 := rfl
    have e29 : x29 = b % M256 * q.toNat := rfl
    have e30 : x30 = x29 % M256 := rfl
    generalize IntKind.u64.wrap (IntKind.u64.wrap (x17 / 18446744073709551616 + x21 / 18446744073709551616) + -(x26 / 18446744073709551616)) = o at *
    clear_value x1 x5 x8 x11 x14 x17 x20 x23 x24 x25 x27 x28 x29 x30
    obtain ⟨Q, rfl⟩ := Int.eq_ofNat_of_zero_le hq.1
    obtain ⟨w0, rfl⟩ := Int.eq_ofNat_of_zero_le R0'.1
    obtain ⟨w1, rfl⟩ := Int.eq_ofNat_of_zero_le R1'.1
    obtain ⟨w2, rfl⟩ := Int.eq_ofNat_of_zero_le R2'.1
    obtain ⟨w3, rfl⟩ := Int.eq_ofNat_of_zero_le R3.1
    obtain ⟨ov, rfl⟩ := Int.eq_ofNat_of_zero_le O3.1
    obtain ⟨a0, h0, b0⟩ := limb_is a 0
    obtain ⟨a1, h1, b1⟩ := limb_is a 1
    obtain ⟨a2, h2, b2⟩ := limb_is a 2
    obtain ⟨a3, h3, b3⟩ := limb_is a 3
    obtain ⟨y0, k0, c0⟩ := limb_is b 0
    obtain ⟨y1, k1, c1⟩ := limb_is b 1
    obtain ⟨y2, k2, c2⟩ := limb_is b 2
    obtain ⟨y3, k3, c3⟩ := limb_is b 3
    have hA := horner_is a a0 a1 a2 a3 h0 h1 h2 h3
    have hB := horner_is b y0 y1 y2 y3 k0 k1 k2 k3
    rw [Int.toNat_natCast, hB] at e29
    have e29' : x29 = ((y3 * Q * 18446744073709551616 + y2 * Q) * 18446744073709551616 + y1 * Q) * 18446744073709551616 + y0 * Q := by
      have k1 : ∀ X Y : Nat, (X * 18446744073709551616 + Y) * Q = X * Q * 18446744073709551616 + Y * Q := fun X Y => by rw [Nat.add_mul, Nat.mul_right_comm]
      rw [e29, k1, k1, k1]
    rw [h0] at S0'
    rw [h1] at S1'
    rw [h2] at S2'
    rw [h3] at S3
    rw [k0, ← Int.natCast_mul] at e1
    rw [k1, ← Int.natCast_mul] at e5
    rw [k2, ← Int.natCast_mul] at e11
    rw [k3, ← Int.natCast_mul] at e17
    have hMl : x29 % M256 < M256 := Nat.mod_lt _ (by rw [M256_eq]; decide)
    have hMd := Nat.div_add_mod x29 M256
    have hAl : x28 < M256 := by rw [e28]; exact Nat.mod_lt _ (by rw [M256_eq]; decide)
    rw [hA] at e28
    rw [← e30] at hMl hMd
    rw [join_nat]
    rw [M_val] at hMl hMd hAl ⊢
    refine less_sum ?_ hMd hMl hAl (Int.ofNat_lt.1 R0'.2) (Int.ofNat_lt.1 R1'.2) (Int.ofNat_lt.1 R2'.2) (Int.ofNat_lt.1 R3.2)
    rw [e28, e29']
    clear e28 e29 e29' e30 hMl hMd hAl hA hB hl O0 O1 O2 O3 L0 L1 L2 L3 p0 p1 p2 p3 R0' R1' R2' R3
    generalize y0 * Q = t0 at *
    generalize y1 * Q = t1 at *
    generalize y2 * Q = t2 at *
    generalize y3 * Q = t3 at *
    exact Nat.le_antisymm (by omega) (by omega)
  exact ⟨hl b 0, hq, p0, z.1, z1, hl a 0, L0, z1, hl b 1, hq, p1, O0.1, z1, hl a 1, L1, z1, hl b 2, hq, p2, O1.1, z1, hl a 2, L2, z1, hl b 3, hq, p3, O2.1, z1, hl a 3, L3, z1, ⟨R0', R1', R2', R3, M.1, trivial⟩, M.2⟩
theorem card_fless : FnOK Try.prog 82 (specUWU flessC flessG) :=
  FnOK_UWU (CxOK_cons card_Mul64 (CxOK_cons card_Add64 (CxOK_cons card_Sub64 CxOK_nil))) (iv := fun _ _ _ => []) (N := 100) Try.func82 (by kernel_rfl) (by kernel_rfl) (fun _ _ _ => bnd_two (bnd_U _) (bnd_I _ _)) ok_fless
theorem card_bring : FnOK Try.prog 77 (specUWU digC bringG) :=
  FnOK_UWU (CxOK_cons card_fguess (CxOK_cons card_fless (CxOK_cons card_Add CxOK_nil))) (iv := fun r x b => [(5, .inv (invBring r x b))]) (N := 100) Try.func77 (by kernel_rfl) (by kernel_rfl) (fun _ _ _ => bnd_one (bnd_U _)) ok_bring
theorem card_rest : FnOK Try.prog 67 (specUUU restC restG) :=
  FnOK_UUU (CxOK_cons card_Mul (CxOK_cons card_bring CxOK_nil)) (iv := fun _ _ _ => []) (N := 100) Try.func67 (by kernel_rfl) (by kernel_rfl) (fun _ _ _ => bnd_one (bnd_U _)) ok_rest
end Go.Proofs.Ytbkdokofapbagaa
