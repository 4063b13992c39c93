/-
  Package wide's functions, each held to its card: the numbers' side.
-/
import Derived.Test.YtbkdokofapbagaaV1
namespace Go.Proofs.Ytbkdokofapbagaa
open Go.Sx

theorem split4 (n : Nat) : ∃ a b c d : Nat, limb n 0 = a ∧ limb n 1 = b ∧ limb n 2 = c ∧ limb n 3 = d ∧ a < 18446744073709551616 ∧ b < 18446744073709551616 ∧ c < 18446744073709551616 ∧ d < 18446744073709551616 ∧
    n % M256 = a + 18446744073709551616 * b + 340282366920938463463374607431768211456 * c + 6277101735386680763835789423207666416102355444464034512896 * d := by
  refine ⟨n / 2 ^ (64 * 0) % 2 ^ 64, n / 2 ^ (64 * 1) % 2 ^ 64, n / 2 ^ (64 * 2) % 2 ^ 64, n / 2 ^ (64 * 3) % 2 ^ 64, rfl, rfl, rfl, rfl, Nat.mod_lt _ (by decide), Nat.mod_lt _ (by decide), Nat.mod_lt _ (by decide), Nat.mod_lt _ (by decide), ?_⟩
  rw [limbs_sum]
  simp only [Nat.mul_zero, Nat.pow_zero, Nat.div_one, Nat.mul_one, Nat.reduceMul, Nat.reducePow]

theorem M256_eq : M256 = 115792089237316195423570985008687907853269984665640564039457584007913129639936 := by decide

theorem carry_step (x y c : Nat) (hx : x < 18446744073709551616) (hy : y < 18446744073709551616) (hc : c ≤ 1) :
    ∃ s d : Nat, ((x : Int) + y + c) % 18446744073709551616 = s ∧ ((x : Int) + y + c) / 18446744073709551616 = d ∧ s < 18446744073709551616 ∧ d ≤ 1 ∧ x + y + c = s + 18446744073709551616 * d :=
  ⟨(x + y + c) % 18446744073709551616, (x + y + c) / 18446744073709551616, by omega, by omega, by omega, by omega, by omega⟩

theorem divmod_of {A S c M : Nat} (h : A = S + M * c) (hS : S < M) : A % M = S ∧ A / M = c := by
  subst h
  rw [Nat.add_mul_mod_self_left, Nat.mod_eq_of_lt hS, Nat.add_mul_div_left _ _ (by omega), Nat.div_eq_of_lt hS]
  exact ⟨rfl, by omega⟩

theorem ok_plus : ∀ a b, Owes Try.prog cxPlus [] 100 Try.f44 [sU a, sU b] (plusG a b) := by
  intro a b
  rw [vc_plus]
  have hab := Nat.add_mod a b M256
  obtain ⟨a0, a1, a2, a3, e0, e1, e2, e3, h0, h1, h2, h3, ha⟩ := split4 a
  obtain ⟨b0, b1, b2, b3, f0, f1, f2, f3, k0, k1, k2, k3, hb⟩ := split4 b
  rw [e0, e1, e2, e3, f0, f1, f2, f3]
  rw [ha, hb] at hab
  rw [ha, hb]
  obtain ⟨s0, c0, p0, q0, r0, t0, w0⟩ := carry_step a0 b0 0 h0 k0 (by omega)
  obtain ⟨s1, c1, p1, q1, r1, t1, w1⟩ := carry_step a1 b1 c0 h1 k1 t0
  obtain ⟨s2, c2, p2, q2, r2, t2, w2⟩ := carry_step a2 b2 c1 h2 k2 t1
  obtain ⟨s3, c3, p3, q3, r3, t3, w3⟩ := carry_step a3 b3 c2 h3 k3 t2
  simp only [Int.natCast_zero] at p0 q0
  obtain ⟨m1, m2⟩ := divmod_of (A := a0 + 18446744073709551616 * a1 + 340282366920938463463374607431768211456 * a2 + 6277101735386680763835789423207666416102355444464034512896 * a3 +
    (b0 + 18446744073709551616 * b1 + 340282366920938463463374607431768211456 * b2 + 6277101735386680763835789423207666416102355444464034512896 * b3))
    (S := s0 + 2 ^ 64 * s1 + 2 ^ 128 * s2 + 2 ^ 192 * s3) (c := c3) (M := M256) (by rw [M256_eq]; omega) (by rw [M256_eq]; omega)
  rw [m1] at hab
  have hS : (s0 + 2 ^ 64 * s1 + 2 ^ 128 * s2 + 2 ^ 192 * s3) % M256 = s0 + 2 ^ 64 * s1 + 2 ^ 128 * s2 + 2 ^ 192 * s3 := Nat.mod_eq_of_lt (by rw [M256_eq]; omega)
  simp only [q0, q1, q2, q3, p0, p1, p2, p3, join, Int.toNat_natCast, and_true, hab, hS, m2]
  clear ha hb hab hS m1 m2 p0 p1 p2 p3 q0 q1 q2 q3 w0 w1 w2 w3 e0 e1 e2 e3 f0 f1 f2 f3
  refine ⟨?_, ?_, ?_, ?_, ?_, ?_, ?_, ?_, ?_, ?_, ?_, ?_, ?_, ?_, ?_, ?_⟩ <;> omega

theorem borrow_step (x y c : Nat) (hx : x < 18446744073709551616) (hy : y < 18446744073709551616) (hc : c ≤ 1) :
    ∃ s d : Nat, ((x : Int) - y - c) % 18446744073709551616 = s ∧ -(((x : Int) - y - c) / 18446744073709551616) = d ∧ s < 18446744073709551616 ∧ d ≤ 1 ∧ x + 18446744073709551616 * d = s + y + c :=
  ⟨(((x : Int) - y - c) % 18446744073709551616).toNat, (-(((x : Int) - y - c) / 18446744073709551616)).toNat, by omega, by omega, by omega, by omega, by omega⟩

theorem ok_less : ∀ a b, Owes Try.prog cxLess [] 100 Try.f45 [sU a, sU b] (lessG a b) := by
  intro a b
  rw [vc_less]
  obtain ⟨a0, a1, a2, a3, e0, e1, e2, e3, h0, h1, h2, h3, ha⟩ := split4 a
  obtain ⟨b0, b1, b2, b3, f0, f1, f2, f3, k0, k1, k2, k3, hb⟩ := split4 b
  rw [e0, e1, e2, e3, f0, f1, f2, f3, ha, hb]
  obtain ⟨s0, c0, p0, q0, r0, t0, w0⟩ := borrow_step a0 b0 0 h0 k0 (by omega)
  obtain ⟨s1, c1, p1, q1, r1, t1, w1⟩ := borrow_step a1 b1 c0 h1 k1 t0
  obtain ⟨s2, c2, p2, q2, r2, t2, w2⟩ := borrow_step a2 b2 c1 h2 k2 t1
  obtain ⟨s3, c3, p3, q3, r3, t3, w3⟩ := borrow_step a3 b3 c2 h3 k3 t2
  simp only [Int.natCast_zero] at p0 q0
  have key : a0 + 18446744073709551616 * a1 + 340282366920938463463374607431768211456 * a2 + 6277101735386680763835789423207666416102355444464034512896 * a3 + M256 * c3 =
    (s0 + 2 ^ 64 * s1 + 2 ^ 128 * s2 + 2 ^ 192 * s3) + (b0 + 18446744073709551616 * b1 + 340282366920938463463374607431768211456 * b2 + 6277101735386680763835789423207666416102355444464034512896 * b3) := by
    rw [M256_eq]; omega
  simp only [q0, q1, q2, q3, p0, p1, p2, p3, join, Int.toNat_natCast, and_true]
  generalize hA : a0 + 18446744073709551616 * a1 + 340282366920938463463374607431768211456 * a2 + 6277101735386680763835789423207666416102355444464034512896 * a3 = A at *
  generalize hB : b0 + 18446744073709551616 * b1 + 340282366920938463463374607431768211456 * b2 + 6277101735386680763835789423207666416102355444464034512896 * b3 = B at *
  have hA' : A < M256 := by rw [M256_eq]; omega
  have hB' : B < M256 := by rw [M256_eq]; omega
  have hS' : s0 + 2 ^ 64 * s1 + 2 ^ 128 * s2 + 2 ^ 192 * s3 < M256 := by rw [M256_eq]; omega
  generalize s0 + 2 ^ 64 * s1 + 2 ^ 128 * s2 + 2 ^ 192 * s3 = S at *
  rw [Nat.mod_eq_of_lt hS']
  have hc3 : c3 = 0 ∨ c3 = 1 := by omega
  have fin : S = (A + M256 - B) % M256 ∧ (c3 : Int) = if A < B then 1 else 0 := by
    rcases hc3 with rfl | rfl
    · have : ¬ A < B := by omega
      rw [if_neg this]
      refine ⟨?_, rfl⟩
      rw [show A + M256 - B = S + M256 by omega, Nat.add_mod_right, Nat.mod_eq_of_lt hS']
    · have : A < B := by omega
      rw [if_pos this]
      refine ⟨?_, rfl⟩
      rw [show A + M256 - B = S by omega, Nat.mod_eq_of_lt hS']
  obtain ⟨g1, g2⟩ := fin
  rw [← g1, ← g2]
  clear ha hb hA hB key hA' hB' hS' g1 g2 p0 p1 p2 p3 q0 q1 q2 q3 w0 w1 w2 w3 e0 e1 e2 e3 f0 f1 f2 f3
  repeat' apply And.intro
  all_goals first | rfl | omega

theorem ok_Add : ∀ a b, Owes Try.prog cxAdd [] 100 Try.f22 [sU a, sU b] (addG a b) := by
  intro a b
  rw [vc_Add]
  refine ⟨⟨rfl, trivial⟩, ?_⟩
  have hM : 0 < M256 := by decide
  have h1 := Nat.mod_lt a hM
  have h2 := Nat.mod_lt b hM
  rw [Bool.eq_iff_iff]
  simp only [bne_iff_ne, ne_eq, decide_eq_true_eq]
  by_cases h : M256 ≤ a % M256 + b % M256
  · have : (a % M256 + b % M256) / M256 ≠ 0 := by
      have := Nat.div_pos h hM
      omega
    simp only [h, iff_true]; omega
  · have : (a % M256 + b % M256) / M256 = 0 := Nat.div_eq_of_lt (by omega)
    simp [h, this]

theorem ok_Sub : ∀ a b, Owes Try.prog cxSub [] 100 Try.f23 [sU a, sU b] (subG a b) := by
  intro a b
  rw [vc_Sub]
  refine ⟨⟨rfl, trivial⟩, ?_⟩
  by_cases h : a % M256 < b % M256 <;> simp [h]

theorem ok_Cmp : ∀ a b, Owes Try.prog [] [] 100 Try.f27 [sU a, sU b] (cmpG a b) := by
  intro a b
  rw [vc_Cmp]
  obtain ⟨a0, a1, a2, a3, e0, e1, e2, e3, h0, h1, h2, h3, ha⟩ := split4 a
  obtain ⟨b0, b1, b2, b3, f0, f1, f2, f3, k0, k1, k2, k3, hb⟩ := split4 b
  rw [e0, e1, e2, e3, f0, f1, f2, f3]
  simp only [cmpN, ha, hb, decide_eq_true_eq, decide_eq_false_iff_not]
  clear e0 e1 e2 e3 f0 f1 f2 f3 ha hb
  refine ⟨fun h => ?_, fun h => ⟨fun h' => ?_, fun h' => ⟨fun g => ?_, fun g => ⟨fun g' => ?_, fun g' => ⟨fun i => ?_, fun i => ⟨fun i' => ?_, fun i' => ⟨fun j => ?_, fun j => ⟨fun j' => ?_, fun j' => ?_⟩⟩⟩⟩⟩⟩⟩⟩
  all_goals
    split
    · omega
    · first
      | omega
      | (split <;> omega)

theorem ok_picked (n m : Int) (hn : i64ok n) (hm : 0 < m ∧ m ≤ 1000000) : Owes Try.prog [] [] 100 Try.f33 [sI .i64 n, sI .i64 m] (pickedG n m) := by
  rw [vc_picked]
  obtain ⟨h1, h2⟩ := hn
  have hd := Int.tmod_add_mul_tdiv n m
  have b1 := Int.emod_nonneg n (show m ≠ 0 by omega)
  have b2 := Int.emod_lt_of_pos n hm.1
  have hlt := Int.tmod_lt_of_pos n hm.1
  refine ⟨by omega, fun h => ?_, fun h => ?_⟩
  · simp only [decide_eq_true_eq] at h
    have hgt : -m < n.tmod m := by
      have := Int.lt_tmod_of_pos n hm.1
      exact this
    have e : n.tmod m + m = n % m := by
      have : (n.tmod m + m) % m = n.tmod m + m := Int.emod_eq_of_lt (by omega) (by omega)
      rw [← this]
      conv => rhs; rw [← hd]
      rw [Int.add_mul_emod_self_left, Int.add_emod_right]
    rw [e]
    exact IntWalk.i64_in _ (by omega)
  · simp only [decide_eq_false_iff_not] at h
    have : n.tmod m % m = n.tmod m := Int.emod_eq_of_lt (by omega) hlt
    rw [← this]
    conv => rhs; rw [← hd]
    rw [Int.add_mul_emod_self_left]

end Go.Proofs.Ytbkdokofapbagaa
