/-
  Texts: P26, P27, V65, P109, V10, P30, V66, P110.
-/
import Derived.Test.YtbjdchpncbgpnaaM1
import Derived.Test.YtbjdchpncbgpnaaM2
import Derived.Test.YtbjdchpncbgpnaaM3
import Derived.Test.YtbjdchpncbgpnaaM4
import Derived.Test.YtbjdchpncbgpnaaM5
import Derived.Test.YtbjdchpncbgpnaaM6
import Derived.Test.YtbjdchpncbgpnaaM7
import Derived.Test.YtbjdchpncbgpnaaM8
import Derived.Test.YtbjdchpncbgpnaaM9
import Derived.Test.YtbjdchpncbgpnaaM10
import Derived.Test.YtbjdchpncbgpnaaM11
section
/-
  Package field: a part brought down; a number less another one some times; one bit; the product.
-/
namespace Go.Proofs.Ytbjdchpncbgpnaa
open Go.Sx

/-- One digit: the guess, and what it leaves. -/
theorem dig_core (r X b : Nat) (bX : X < 18446744073709551616) (hrb : r % M256 < b % M256) (hbt : M256 ≤ 2 * (b % M256)) :
    ∃ g y : Nat, guessN (limb r 3) (limb r 2) (limb b 3) = (g : Int) ∧ g < 18446744073709551616 ∧ y ≤ 2 ∧ 0 < limb b 3 ∧
      IntKind.u64.wrap (limb r 3 - IntKind.u64.wrap (((b % M256 * g / M256 : Nat) : Int) + if join (X : Int) (limb r 0) (limb r 1) (limb r 2) % M256 < b % M256 * g % M256 then 1 else 0)) = ((digAt r (X : Int) b y / M256 % 18446744073709551616 : Nat) : Int) ∧
      (join (X : Int) (limb r 0) (limb r 1) (limb r 2) % M256 + M256 - b % M256 * g % M256) % M256 = digAt r (X : Int) b y % M256 ∧
      (∀ e, e ≤ 2 → e ≠ 0 → IntKind.u64.wrap (((digAt r (X : Int) b e / M256 % 18446744073709551616 : Nat) : Int) + ((digAt r (X : Int) b e % M256 + b % M256) / M256 : Nat)) = ((digAt r (X : Int) b (e - 1) / M256 % 18446744073709551616 : Nat) : Int) ∧ digAt r (X : Int) b e + b % M256 = digAt r (X : Int) b (e - 1) ∧ digAt r (X : Int) b e / M256 % 18446744073709551616 ≠ 0) ∧
      digAt r (X : Int) b 0 / M256 % 18446744073709551616 = 0 ∧ digAt r (X : Int) b 0 % M256 = digR r (X : Int) % (b % M256) := by
  obtain ⟨r0, h0, b0⟩ := limb_is r 0
  obtain ⟨r1, h1, b1⟩ := limb_is r 1
  obtain ⟨r2, h2, b2⟩ := limb_is r 2
  obtain ⟨r3, h3, b3⟩ := limb_is r 3
  obtain ⟨y0, k0, c0⟩ := limb_is b 0
  obtain ⟨y1, k1, c1⟩ := limb_is b 1
  obtain ⟨y2, k2, c2⟩ := limb_is b 2
  obtain ⟨y3, k3, c3⟩ := limb_is b 3
  have hA := horner_is r r0 r1 r2 r3 h0 h1 h2 h3
  have hB := horner_is b y0 y1 y2 y3 k0 k1 k2 k3
  have hBM : b % M256 < M256 := Nat.mod_lt _ (by rw [M256_eq]; decide)
  have hT : ∀ e, digAt r (X : Int) b e = M256 * 18446744073709551616 + digR r (X : Int) % (b % M256) - e * (b % M256) := fun e => rfl
  have hR : digR r (X : Int) = r % M256 * 18446744073709551616 + X := by unfold digR; rw [Int.toNat_natCast]
  have hJ : join (X : Int) (limb r 0) (limb r 1) (limb r 2) % M256 = ((r2 * 18446744073709551616 + r1) * 18446744073709551616 + r0) * 18446744073709551616 + X := by
    rw [h0, h1, h2, join_nat, M_val]
    omega
  rw [h0, h1, h2] at hJ
  rw [h0, h1, h2, h3, k3, guess_nat, hJ]
  rw [M_val] at hA hB hBM hT hR hrb hbt
  rw [M_val]
  generalize digR r (X : Int) = R at *
  rw [hA] at hR hrb
  obtain ⟨n1, n2, n3, n4, n5, n6, n7, n8⟩ := kn_all b0 b1 b2 c0 c1 c2 bX hB hR hrb hbt
  obtain ⟨x2, E2⟩ : ∃ v, v = b % 115792089237316195423570985008687907853269984665640564039457584007913129639936 := ⟨_, rfl⟩
  rw [← E2] at hB hBM hT hrb hbt n1 n5 ⊢
  obtain ⟨q1, q2, q3⟩ := knuth (W := 18446744073709551616) (K := 6277101735386680763835789423207666416102355444464034512896) (r3 := r3) (r2 := r2) (rr := (r1 * 18446744073709551616 + r0) * 18446744073709551616 + X) (b3 := y3) (bl := (y2 * 18446744073709551616 + y1) * 18446744073709551616 + y0) (B := x2) (R := R) (g := gN r3 r2 y3) n1 n2 n3 n4 n5 n6 b2 rfl
  generalize gN r3 r2 y3 = g at *
  have hBp : 0 < x2 := by clear hT; omega
  have dm := Nat.div_add_mod R x2
  have ml := Nat.mod_lt R hBp
  obtain ⟨x3, E3⟩ : ∃ v, v = R / x2 := ⟨_, rfl⟩
  rw [← E3] at dm q1 q2
  have D3 := Nat.div_add_mod (x2 * g) 115792089237316195423570985008687907853269984665640564039457584007913129639936
  have L3 := Nat.mod_lt (x2 * g) (show 0 < 115792089237316195423570985008687907853269984665640564039457584007913129639936 by decide)
  have H6 : x2 * g / 115792089237316195423570985008687907853269984665640564039457584007913129639936 < 18446744073709551616 := by
    rw [Nat.div_lt_iff_lt_mul (by decide), Nat.mul_comm 18446744073709551616]
    exact Nat.mul_lt_mul'' hBM q3
  have hG : x2 * g = x2 * x3 + (g - x3) * x2 := by
    rw [Nat.mul_comm (g - x3), ← Nat.mul_add]
    exact congrArg (x2 * ·) (by clear hT; omega)
  have hY : (g - x3) * x2 ≤ 2 * 115792089237316195423570985008687907853269984665640564039457584007913129639936 := Nat.mul_le_mul (by clear hT; omega) (Nat.le_of_lt hBM)
  obtain ⟨t1, t2⟩ := top_of (r3 := r3) (x6 := ((r2 * 18446744073709551616 + r1) * 18446744073709551616 + r0) * 18446744073709551616 + X) (x7 := x2 * g % 115792089237316195423570985008687907853269984665640564039457584007913129639936) (hi := x2 * g / 115792089237316195423570985008687907853269984665640564039457584007913129639936) (mrem := R % x2) (Y := (g - x3) * x2) (P := x2 * x3) (G := x2 * g) (by rw [dm, n7]) hG D3 L3 n8 H6 hY (Nat.lt_trans ml hBM) b3
  have step : ∀ e, e ≤ 2 → e ≠ 0 → IntKind.u64.wrap (((digAt r (X : Int) b e / 115792089237316195423570985008687907853269984665640564039457584007913129639936 % 18446744073709551616 : Nat) : Int) + ((digAt r (X : Int) b e % 115792089237316195423570985008687907853269984665640564039457584007913129639936 + x2) / 115792089237316195423570985008687907853269984665640564039457584007913129639936 : Nat)) = ((digAt r (X : Int) b (e - 1) / 115792089237316195423570985008687907853269984665640564039457584007913129639936 % 18446744073709551616 : Nat) : Int) ∧ digAt r (X : Int) b e + x2 = digAt r (X : Int) b (e - 1) ∧ digAt r (X : Int) b e / 115792089237316195423570985008687907853269984665640564039457584007913129639936 % 18446744073709551616 ≠ 0 := by
    intro e he h0
    have := top_step (mrem := R % x2) (B := x2) (e := e) ml hBM he h0
    rw [← hT, ← hT] at this
    exact this
  obtain ⟨u1, u2⟩ := top_zero (mrem := R % x2) (B := x2) ml hBM
  rw [← hT] at u1 u2 t1 t2
  have y3p : 0 < y3 := by clear hT; omega
  have g1 : g - x3 ≤ 2 := by clear hT; omega
  exact ⟨g, g - x3, rfl, q3, g1, Int.ofNat_lt.2 y3p, t1, t2, step, u1, u2⟩

theorem wrap_sub (a v : Int) : IntKind.u64.wrap (a - IntKind.u64.wrap v) = IntKind.u64.wrap (a - v) := by
  simp only [wrap_mod]
  omega
theorem carry_one {v x M : Nat} (hv : v < M) (hx : x < M) : (M ≤ v + x → (v + x) / M = 1) ∧ (¬ M ≤ v + x → (v + x) / M = 0) := by
  refine ⟨fun h => ?_, fun h => Nat.div_eq_of_lt (by omega)⟩
  rw [show v + x = (v + x - M) + M by omega, Nat.add_div_right _ (by omega), Nat.div_eq_of_lt (by omega)]
theorem ok_bring : ∀ (r : Nat) (x : Int) (b : Nat), Ok (digC r x b) → Owes Try.prog cxBring [(5, .inv (invBring r x b))] 100 Try.f92 [sU r, sI .u64 x, sU b] (bringG r x b) := by
  intro r x b hc
  obtain ⟨hx, hrb, hbt, _⟩ := hc
  rw [vc_bring]
  obtain ⟨X, rfl⟩ := Int.eq_ofNat_of_zero_le hx.1
  have bX : X < 18446744073709551616 := Int.ofNat_lt.1 hx.2
  have hM : 0 < M256 := by rw [M256_eq]; decide
  have hbM := Nat.mod_lt b hM
  obtain ⟨g, y, eg, gw, hy, hb3, t1, t2, step, u1, u2⟩ := dig_core r X b bX hrb hbt
  rw [eg]
  intro x1 x2 x3 x4 x5 x6
  have E1 : x1 = (g : Int) := rfl
  have T : x1.toNat = g := by rw [E1]; exact Int.toNat_natCast _
  have E4 : x4 = b % M256 * g := by simp only [x4, x3, T]
  have E6 : x6 = b % M256 * g % M256 := by simp only [x6, E4]
  rw [wrap_sub, ← E6, ← E4] at t1
  rw [← E6] at t2
  have hl := fun n i => (⟨limb_nonneg n i, limb_lt n i⟩ : (0 : Int) ≤ limb n i ∧ limb n i < 18446744073709551616)
  have hbB : ∀ v : Nat, (v + b) % M256 = (v + b % M256) % M256 := fun v => by rw [Nat.add_mod v b, Nat.add_mod v (b % M256), Nat.mod_mod]
  have hrem : digR r (X : Int) % (b % M256) < M256 := Nat.lt_trans (Nat.mod_lt _ (by omega)) hbM
  refine ⟨hl r 3, hl r 2, hl b 3, hb3, hx, hl r 0, hl r 1, hl r 2, by rw [E1]; exact word_nat gw, fun _ => rfl, y, hy, rfl, rfl, rfl, t1, t2, rfl, rfl, rfl, rfl, fun e he => ⟨fun c => ?_, fun c => ?_⟩⟩
  · have he0 : e ≠ 0 := by
      rintro rfl
      rw [u1] at c
      exact absurd c (by decide)
    obtain ⟨s1, s2, s3⟩ := step e he he0
    obtain ⟨k1, k2⟩ := carry_one (Nat.mod_lt (digAt r (X : Int) b e) hM) hbM
    have hs : (digAt r (X : Int) b e + b) % M256 = digAt r (X : Int) b (e - 1) % M256 := by rw [hbB, s2]
    refine ⟨fun h => ⟨e - 1, by omega, rfl, rfl, rfl, ?_, hs, rfl, rfl, rfl, rfl, by omega⟩, fun h => ⟨e - 1, by omega, rfl, rfl, rfl, ?_, hs, rfl, rfl, rfl, rfl, by omega⟩⟩
    · rw [k1 (of_decide_eq_true h)] at s1
      exact s1
    · rw [k2 (of_decide_eq_false h), Int.natCast_zero, Int.add_zero, wrap_id (word_nat (Nat.mod_lt _ (by decide)))] at s1
      exact s1
  · have he0 : e = 0 := by
      refine Classical.byContradiction fun h => ?_
      obtain ⟨s1, s2, s3⟩ := step e he h
      rw [bne_eq_false_iff_eq] at c
      exact s3 (Int.ofNat.inj c)
    subst he0
    exact ⟨by rw [u2, Nat.mod_eq_of_lt hrem], trivial⟩

theorem less_step (a P o : Int) (ha : 0 ≤ a ∧ a < 18446744073709551616) (hP : 0 ≤ P ∧ P ≤ 340282366920938463426481119284349108225) (ho : 0 ≤ o ∧ o < 18446744073709551616) :
    (0 ≤ IntKind.u64.wrap (IntKind.u64.wrap (P / 18446744073709551616 + (P % 18446744073709551616 + o + 0) / 18446744073709551616) + -((a - (P % 18446744073709551616 + o + 0) % 18446744073709551616 - 0) / 18446744073709551616)) ∧ IntKind.u64.wrap (IntKind.u64.wrap (P / 18446744073709551616 + (P % 18446744073709551616 + o + 0) / 18446744073709551616) + -((a - (P % 18446744073709551616 + o + 0) % 18446744073709551616 - 0) / 18446744073709551616)) < 18446744073709551616) ∧
    a + 18446744073709551616 * IntKind.u64.wrap (IntKind.u64.wrap (P / 18446744073709551616 + (P % 18446744073709551616 + o + 0) / 18446744073709551616) + -((a - (P % 18446744073709551616 + o + 0) % 18446744073709551616 - 0) / 18446744073709551616)) = (a - (P % 18446744073709551616 + o + 0) % 18446744073709551616 - 0) % 18446744073709551616 + P + o ∧
    (0 ≤ (a - (P % 18446744073709551616 + o + 0) % 18446744073709551616 - 0) % 18446744073709551616 ∧ (a - (P % 18446744073709551616 + o + 0) % 18446744073709551616 - 0) % 18446744073709551616 < 18446744073709551616) ∧ 0 ≤ P % 18446744073709551616 ∧ (0 ≤ (P % 18446744073709551616 + o + 0) % 18446744073709551616 ∧ (P % 18446744073709551616 + o + 0) % 18446744073709551616 < 18446744073709551616) := by
  simp only [wrap_mod]
  refine ⟨⟨?_, ?_⟩, ?_, ⟨?_, ?_⟩, ?_, ?_, ?_⟩ <;> omega
theorem prod_bound {b q : Int} (hb : 0 ≤ b ∧ b < 18446744073709551616) (hq : 0 ≤ q ∧ q < 18446744073709551616) : 0 ≤ b * q ∧ b * q ≤ 340282366920938463426481119284349108225 := by
  obtain ⟨b, rfl⟩ := Int.eq_ofNat_of_zero_le hb.1
  obtain ⟨q, rfl⟩ := Int.eq_ofNat_of_zero_le hq.1
  rw [← Int.natCast_mul]
  have := Nat.mul_le_mul (show b ≤ 18446744073709551615 by omega) (show q ≤ 18446744073709551615 by omega)
  omega
theorem less_sum {A G r0 r1 r2 r3 o hi lo : Nat} (h : A + 115792089237316195423570985008687907853269984665640564039457584007913129639936 * o = ((((r3 * 18446744073709551616 + r2) * 18446744073709551616 + r1) * 18446744073709551616 + r0) + G)) (hG : 115792089237316195423570985008687907853269984665640564039457584007913129639936 * hi + lo = G) (hlo : lo < 115792089237316195423570985008687907853269984665640564039457584007913129639936) (hA : A < 115792089237316195423570985008687907853269984665640564039457584007913129639936) (h0 : r0 < 18446744073709551616) (h1 : r1 < 18446744073709551616) (h2 : r2 < 18446744073709551616) (h3 : r3 < 18446744073709551616) :
    (((r3 * 18446744073709551616 + r2) * 18446744073709551616 + r1) * 18446744073709551616 + r0) % 115792089237316195423570985008687907853269984665640564039457584007913129639936 = (A + 115792089237316195423570985008687907853269984665640564039457584007913129639936 - lo) % 115792089237316195423570985008687907853269984665640564039457584007913129639936 ∧ (o : Int) = (hi : Int) + if A < lo then 1 else 0 := by
  split
  · refine ⟨?_, ?_⟩ <;> omega
  · refine ⟨?_, ?_⟩ <;> omega
theorem ok_fless : ∀ (a : Nat) (q : Int) (b : Nat), Ok (flessC a q b) → Owes Try.prog cxFless [] 100 Try.f97 [sU a, sI .u64 q, sU b] (flessG a q b) := by
  intro a q b hc
  obtain ⟨hq, _⟩ := hc
  rw [vc_fless]
  have hl := fun n i => (⟨limb_nonneg n i, limb_lt n i⟩ : (0 : Int) ≤ limb n i ∧ limb n i < 18446744073709551616)
  have z : (0 : Int) ≤ 0 ∧ (0 : Int) < 18446744073709551616 := by decide
  have z1 : (0 : Int) ≤ 0 ∧ (0 : Int) ≤ 1 := by decide
  obtain ⟨o0, s0, r0, p0, l0⟩ := less_step (limb a 0) (limb b 0 * q) 0 (hl a 0) (prod_bound (hl b 0) hq) z
  intro x1 x2 x3 x4 x5 x6 x7 x8
  have O0 : 0 ≤ x8 ∧ x8 < 18446744073709551616 := o0
  have S0 : limb a 0 + 18446744073709551616 * x8 = x7 % 18446744073709551616 + x1 + 0 := s0
  have R0 : 0 ≤ x7 % 18446744073709551616 ∧ x7 % 18446744073709551616 < 18446744073709551616 := r0
  have L0 : 0 ≤ x4 ∧ x4 < 18446744073709551616 := l0
  obtain ⟨o1, s1, r1, p1, l1⟩ := less_step (limb a 1) (limb b 1 * q) x8 (hl a 1) (prod_bound (hl b 1) hq) O0
  intro x9 x10 x11 x12 x13 x14
  have O1 : 0 ≤ x14 ∧ x14 < 18446744073709551616 := o1
  have S1 : limb a 1 + 18446744073709551616 * x14 = x13 % 18446744073709551616 + x5 + x8 := s1
  have R1 : 0 ≤ x13 % 18446744073709551616 ∧ x13 % 18446744073709551616 < 18446744073709551616 := r1
  have L1 : 0 ≤ x10 ∧ x10 < 18446744073709551616 := l1
  obtain ⟨o2, s2, r2, p2, l2⟩ := less_step (limb a 2) (limb b 2 * q) x14 (hl a 2) (prod_bound (hl b 2) hq) O1
  intro x15 x16 x17 x18 x19 x20
  have O2 : 0 ≤ x20 ∧ x20 < 18446744073709551616 := o2
  have S2 : limb a 2 + 18446744073709551616 * x20 = x19 % 18446744073709551616 + x11 + x14 := s2
  have R2 : 0 ≤ x19 % 18446744073709551616 ∧ x19 % 18446744073709551616 < 18446744073709551616 := r2
  have L2 : 0 ≤ x16 ∧ x16 < 18446744073709551616 := l2
  obtain ⟨o3, s3, r3, p3, l3⟩ := less_step (limb a 3) (limb b 3 * q) x20 (hl a 3) (prod_bound (hl b 3) hq) O2
  intro x21 x22 x23 x24 x25 x26 x27 x28 x29 x30
  have L3 : 0 ≤ x22 ∧ x22 < 18446744073709551616 := l3
  have R3 : 0 ≤ x27 ∧ x27 < 18446744073709551616 := r3
  have S3 : limb a 3 + 18446744073709551616 * IntKind.u64.wrap (IntKind.u64.wrap (x17 / 18446744073709551616 + x21 / 18446744073709551616) + -(x26 / 18446744073709551616)) = x27 + x17 + x20 := s3
  have O3 : 0 ≤ IntKind.u64.wrap (IntKind.u64.wrap (x17 / 18446744073709551616 + x21 / 18446744073709551616) + -(x26 / 18446744073709551616)) ∧ IntKind.u64.wrap (IntKind.u64.wrap (x17 / 18446744073709551616 + x21 / 18446744073709551616) + -(x26 / 18446744073709551616)) < 18446744073709551616 := o3
  have R0' : 0 ≤ x23 ∧ x23 < 18446744073709551616 := R0
  have R1' : 0 ≤ x24 ∧ x24 < 18446744073709551616 := R1
  have R2' : 0 ≤ x25 ∧ x25 < 18446744073709551616 := R2
  have S0' : limb a 0 + 18446744073709551616 * x8 = x23 + x1 + 0 := S0
  have S1' : limb a 1 + 18446744073709551616 * x14 = x24 + x5 + x8 := S1
  have S2' : limb a 2 + 18446744073709551616 * x20 = x25 + x11 + x14 := S2
  clear o0 s0 r0 l0 o1 s1 r1 l1 o2 s2 r2 l2 o3 s3 r3 l3 R0 R1 R2 S0 S1 S2
  have M : (join x23 x24 x25 x27 % M256 = (x28 + M256 - x30) % M256) ∧ IntKind.u64.wrap (IntKind.u64.wrap (x17 / 18446744073709551616 + x21 / 18446744073709551616) + -(x26 / 18446744073709551616)) = ((x29 / M256 : Nat) : Int) + if x28 < x30 then (1 : Int) else (0 : Int) := by
    have e1 : x1 = limb b 0 * q := rfl
    have e5 : x5 = limb b 1 * q := rfl
    have e11 : x11 = limb b 2 * q := rfl
    have e17 : x17 = limb b 3 * q := rfl
    have e28 : x28 = a % M256 := rfl
    have e29 : x29 = b % M256 * q.toNat := rfl
    have e30 : x30 = x29 % M256 := rfl
    generalize IntKind.u64.wrap (IntKind.u64.wrap (x17 / 18446744073709551616 + x21 / 18446744073709551616) + -(x26 / 18446744073709551616)) = o at *
    clear_value x1 x5 x8 x11 x14 x17 x20 x23 x24 x25 x27 x28 x29 x30
    obtain ⟨Q, rfl⟩ := Int.eq_ofNat_of_zero_le hq.1
    obtain ⟨w0, rfl⟩ := Int.eq_ofNat_of_zero_le R0'.1
    obtain ⟨w1, rfl⟩ := Int.eq_ofNat_of_zero_le R1'.1
    obtain ⟨w2, rfl⟩ := Int.eq_ofNat_of_zero_le R2'.1
    obtain ⟨w3, rfl⟩ := Int.eq_ofNat_of_zero_le R3.1
    obtain ⟨ov, rfl⟩ := Int.eq_ofNat_of_zero_le O3.1
    obtain ⟨a0, h0, b0⟩ := limb_is a 0
    obtain ⟨a1, h1, b1⟩ := limb_is a 1
    obtain ⟨a2, h2, b2⟩ := limb_is a 2
    obtain ⟨a3, h3, b3⟩ := limb_is a 3
    obtain ⟨y0, k0, c0⟩ := limb_is b 0
    obtain ⟨y1, k1, c1⟩ := limb_is b 1
    obtain ⟨y2, k2, c2⟩ := limb_is b 2
    obtain ⟨y3, k3, c3⟩ := limb_is b 3
    have hA := horner_is a a0 a1 a2 a3 h0 h1 h2 h3
    have hB := horner_is b y0 y1 y2 y3 k0 k1 k2 k3
    rw [Int.toNat_natCast, hB] at e29
    have e29' : x29 = ((y3 * Q * 18446744073709551616 + y2 * Q) * 18446744073709551616 + y1 * Q) * 18446744073709551616 + y0 * Q := by
      have k1 : ∀ X Y : Nat, (X * 18446744073709551616 + Y) * Q = X * Q * 18446744073709551616 + Y * Q := fun X Y => by rw [Nat.add_mul, Nat.mul_right_comm]
      rw [e29, k1, k1, k1]
    rw [h0] at S0'
    rw [h1] at S1'
    rw [h2] at S2'
    rw [h3] at S3
    rw [k0, ← Int.natCast_mul] at e1
    rw [k1, ← Int.natCast_mul] at e5
    rw [k2, ← Int.natCast_mul] at e11
    rw [k3, ← Int.natCast_mul] at e17
    have hMl : x29 % M256 < M256 := Nat.mod_lt _ (by rw [M256_eq]; decide)
    have hMd := Nat.div_add_mod x29 M256
    have hAl : x28 < M256 := by rw [e28]; exact Nat.mod_lt _ (by rw [M256_eq]; decide)
    rw [hA] at e28
    rw [← e30] at hMl hMd
    rw [join_nat]
    rw [M_val] at hMl hMd hAl ⊢
    refine less_sum ?_ hMd hMl hAl (Int.ofNat_lt.1 R0'.2) (Int.ofNat_lt.1 R1'.2) (Int.ofNat_lt.1 R2'.2) (Int.ofNat_lt.1 R3.2)
    rw [e28, e29']
    clear e28 e29 e29' e30 hMl hMd hAl hA hB hl O0 O1 O2 O3 L0 L1 L2 L3 p0 p1 p2 p3 R0' R1' R2' R3
    generalize y0 * Q = t0 at *
    generalize y1 * Q = t1 at *
    generalize y2 * Q = t2 at *
    generalize y3 * Q = t3 at *
    exact Nat.le_antisymm (by omega) (by omega)
  exact ⟨hl b 0, hq, p0, z.1, z1, hl a 0, L0, z1, hl b 1, hq, p1, O0.1, z1, hl a 1, L1, z1, hl b 2, hq, p2, O1.1, z1, hl a 2, L2, z1, hl b 3, hq, p3, O2.1, z1, hl a 3, L3, z1, ⟨R0', R1', R2', R3, M.1, trivial⟩, M.2⟩
theorem card_fless : FnOK Try.prog 97 (specUWU flessC flessG) :=
  FnOK_UWU (CxOK_cons card_Mul64 (CxOK_cons card_Add64 (CxOK_cons card_Sub64 CxOK_nil))) (iv := fun _ _ _ => []) (N := 100) Try.func97 (by kernel_rfl) (by kernel_rfl) (fun _ _ _ => bnd_two (bnd_U _) (bnd_I _ _)) ok_fless
theorem card_bring : FnOK Try.prog 92 (specUWU digC bringG) :=
  FnOK_UWU (CxOK_cons card_fguess (CxOK_cons card_fless (CxOK_cons card_Add CxOK_nil))) (iv := fun r x b => [(5, .inv (invBring r x b))]) (N := 100) Try.func92 (by kernel_rfl) (by kernel_rfl) (fun _ _ _ => bnd_one (bnd_U _)) ok_bring
theorem card_rest : FnOK Try.prog 81 (specUUU restC restG) :=
  FnOK_UUU (CxOK_cons card_Mul (CxOK_cons card_bring CxOK_nil)) (iv := fun _ _ _ => []) (N := 100) Try.func81 (by kernel_rfl) (by kernel_rfl) (fun _ _ _ => bnd_one (bnd_U _)) ok_rest

theorem ok_bit : ∀ n : Int, Ok (bitC n) → Owes Try.prog Cx.none [] 100 Try.f83 [sI .i64 n] (bitG n) := by
  intro n hc
  obtain ⟨hn, _⟩ := hc
  rw [vc_bit]
  obtain ⟨p, t, hnp, ht, hp, y1, y2, y3, y4⟩ := n_parts (n := n) ⟨hn.1, by omega⟩
  have hp3 : p ≤ 3 := by omega
  have ht63 : 2 ^ t < 18446744073709551616 := Nat.lt_of_le_of_lt (Nat.pow_le_pow_right (by decide) ht) (by decide)
  intro x1 x2 x3 x4 x5 x6 x7
  have E1 : x1 = (p : Int) := y1
  have E2 : x2 = p := by simp only [x2, E1]; exact Int.toNat_natCast _
  have E3 : x3 = ((2 ^ t : Nat) : Int) := by
    simp only [x3, y2]
    rw [two_min t (by omega), Int.one_mul]
    exact wrap_id (word_nat ht63)
  have w := word_nat ht63
  rw [y2, hnp, Int.toNat_natCast, two_split]
  have hE : ∀ i : Nat, (if i = x2 then x3 else (0 : Int)) = ((if i = p then 2 ^ t else 0 : Nat) : Int) := fun i => by
    rw [E2, E3]
    split <;> rfl
  have hb : ∀ i : Nat, (0 : Int) ≤ ((if i = p then 2 ^ t else 0 : Nat) : Int) ∧ ((if i = p then 2 ^ t else 0 : Nat) : Int) < 18446744073709551616 := fun i => word_nat (by split; exact ht63; decide)
  have E4 : x4 = ((if 0 = p then 2 ^ t else 0 : Nat) : Int) := hE 0
  have E5 : x5 = ((if 1 = p then 2 ^ t else 0 : Nat) : Int) := hE 1
  have E6 : x6 = ((if 2 = p then 2 ^ t else 0 : Nat) : Int) := hE 2
  have E7 : x7 = ((if 3 = p then 2 ^ t else 0 : Nat) : Int) := hE 3
  rw [E4, E5, E6, E7, E1, join_nat]
  refine ⟨nn _, ⟨nn _, by omega⟩, ⟨nn _, by omega⟩, hb 0, hb 1, hb 2, hb 3, ?_, trivial⟩
  refine congrArg (· % M256) ?_
  generalize 2 ^ t = d at *
  rcases (show p = 0 ∨ p = 1 ∨ p = 2 ∨ p = 3 by omega) with rfl | rfl | rfl | rfl
  · simp
  · simp
  · simp [Nat.mul_assoc]
  · simp [Nat.mul_assoc]
theorem card_bit : FnOK Try.prog 83 (specI bitC bitG) :=
  FnOK_I CxOK_nil (iv := fun _ => []) (N := 100) Try.func83 (by kernel_rfl) (by kernel_rfl) (fun _ => bnd_one (bnd_U _)) ok_bit

theorem prod_moved {a b m D E M : Nat} (hDE : D * E = M) (hM0 : 0 < M) (hEM : E < M) (hm : 0 < m) (hmD : m * D < M) : a * (b * D) % (m * D) % M * (E % M) / M % M = a * b % m % M := by
  have h1 : a * (b * D) % (m * D) = a * b % m * D := by rw [← Nat.mul_assoc, Nat.mul_mod_mul_right]
  have hr := Nat.mod_lt (a * b) hm
  have h2 : a * b % m * D < M := Nat.lt_of_le_of_lt (Nat.mul_le_mul_right D (Nat.le_of_lt hr)) hmD
  rw [h1, Nat.mod_eq_of_lt h2, Nat.mod_eq_of_lt hEM, Nat.mul_assoc, hDE, Nat.mul_div_cancel _ hM0]
theorem ok_product : ∀ a b m : Nat, Ok (prodC a b m) → Owes Try.prog cxProd [] 100 Try.f62 [sU a, sU b, sU m] (prodG a b m) := by
  intro a b m hc
  obtain ⟨ha, hb, _⟩ := hc
  rw [vc_product]
  have hMp : 0 < M256 := by rw [M256_eq]; decide
  have hM := Nat.mod_lt m hMp
  have hm0 : 0 < m % M256 := by omega
  have hl := bitsN_le (n := m % M256) (k := 256) hM
  obtain ⟨hb1, hb2⟩ := bitsN_two (m % M256) (by omega)
  have hl0 : 1 ≤ bitsN (m % M256) := by
    refine Nat.pos_of_ne_zero fun e => ?_
    rw [e] at hb1
    omega
  obtain ⟨s, hs⟩ : ∃ s, s = 256 - bitsN (m % M256) := ⟨_, rfl⟩
  have hs' : bitsN (m % M256) = 256 - s := by omega
  have hs2 : s ≤ 255 := by omega
  have hDE : 2 ^ s * 2 ^ (256 - s) = M256 := by rw [← Nat.pow_add, show s + (256 - s) = 256 by omega]; rfl
  have hD := Nat.two_pow_pos s
  rw [hs'] at hb1 hb2
  have hYM : m % M256 * 2 ^ s < M256 := Nat.lt_of_lt_of_eq (Nat.mul_lt_mul_of_pos_right hb1 hD) (by rw [Nat.mul_comm, hDE])
  have hYt : M256 ≤ 2 * (m % M256 * 2 ^ s) := by
    have := Nat.mul_le_mul_right (2 ^ s) hb2
    rw [Nat.mul_comm (2 ^ (256 - s)), hDE, Nat.mul_assoc] at this
    exact this
  intro x1 x2 x3 x4 x5 x6 x7 x8 x9
  have E1 : x1 = m % M256 := rfl
  have E2 : x2 = (s : Int) := by simp only [x2, x1, ← hs]
  have E3 : x3 = a % M256 := rfl
  have E4 : x4 = b % M256 := rfl
  have E5 : x5 = x3 * x4 % x1 % M256 := rfl
  have E6 : x6 = 2 ^ s := by simp only [x6, E2, Int.toNat_natCast]
  have E7 : x7 = m % M256 * 2 ^ s := by simp only [x7, E6]; exact (mod_mul_M m _).trans (Nat.mod_eq_of_lt hYM)
  have hbD : b % M256 * 2 ^ s < m % M256 * 2 ^ s := Nat.mul_lt_mul_of_pos_right hb hD
  have E8 : x8 = b % M256 * 2 ^ s := by simp only [x8, E6]; exact (mod_mul_M b _).trans (Nat.mod_eq_of_lt (Nat.lt_trans hbD hYM))
  have E9 : x9 = ((256 - s : Nat) : Int) := by
    simp only [x9, E2]
    rw [IntWalk.i64_in _ (by omega)]
    omega
  clear_value x9 x8 x7 x6 x5 x4 x3 x2 x1
  refine ⟨fun h => ?_, fun h => ?_⟩
  · have h0 : s = 0 := by
      have h := beq_iff_eq.1 h
      omega
    rw [h0, Nat.pow_zero, Nat.mul_one] at hYt
    exact ⟨by rw [E3, E1]; exact ha, by rw [E4, E1]; exact hb, by rw [E1]; exact hYt, rfl, trivial⟩
  · have h0 : 1 ≤ s := by
      have h := beq_eq_false_iff_ne.1 h
      omega
    have hEM : 2 ^ (256 - s) < M256 := by
      rw [M_pow]
      exact Nat.pow_lt_pow_right (by decide) (by omega)
    refine ⟨by rw [E2]; omega, by rw [E2]; omega, ?_, by rw [E8, E7]; exact hbD, by rw [E7]; exact hYt, by rw [E9]; omega, ?_, trivial⟩
    · rw [E3, E7]
      exact Nat.lt_of_lt_of_le ha (Nat.le_mul_of_pos_right _ hD)
    · rw [E9, Int.toNat_natCast, E8, E7, E5, E3, E4, E1]
      exact prod_moved hDE hMp hEM hm0 hYM
theorem card_product : FnOK Try.prog 62 (specUUU prodC prodG) :=
  FnOK_UUU (CxOK_cons card_fnoughts (CxOK_cons card_rest (CxOK_cons card_bit (CxOK_cons card_Mul CxOK_nil)))) (iv := fun _ _ _ => []) (N := 100) Try.func62 (by kernel_rfl) (by kernel_rfl) (fun _ _ _ => bnd_one (bnd_U _)) ok_product
end Go.Proofs.Ytbjdchpncbgpnaa
end

section
/-
  Package field's calls; turned round.
-/
namespace Go.Proofs.Ytbjdchpncbgpnaa
open Go.Sx

theorem cmp_ge {a m : Nat} : cmpN a m ≥ 0 ↔ m % M256 ≤ a % M256 := by
  unfold cmpN
  rcases Nat.lt_or_ge (a % M256) (m % M256) with c | c
  · rw [if_pos c]; omega
  · rw [if_neg (by omega)]
    refine ⟨fun _ => c, fun _ => ?_⟩
    split <;> decide
/-! ## The laws -/
end Go.Proofs.Ytbjdchpncbgpnaa
end

section
/-
  Laws of numbers by a modulus: reckoned by the kernel. (Laid by program.)
-/
namespace Go.Proofs.Ytbjdchpncbgpnaa
open Go Go.Sx Go.RowKit
set_option maxRecDepth 100000
end Go.Proofs.Ytbjdchpncbgpnaa
end

section
/-
  Laws of numbers by a modulus: sums and products.
-/
namespace Go.Proofs.Ytbjdchpncbgpnaa
open Go Go.Sx Go.RowKit

theorem cmpI_lt0 {A R : Nat} : decide (cmpI A R ≥ 0) = false ↔ A < R := by
  rw [decide_eq_false_iff_not, cmpI_ge]
  omega
theorem cmpI_ge0 {A R : Nat} : decide (cmpI A R ≥ 0) = true ↔ R ≤ A := by rw [decide_eq_true_iff, cmpI_ge]
end Go.Proofs.Ytbjdchpncbgpnaa
end

section
/-
  Package field: powers: reckoned by the kernel. (Laid by program.)
-/
namespace Go.Proofs.Ytbjdchpncbgpnaa
open Go.Sx
set_option maxRecDepth 100000
def powC (a _ m : Nat) : List Prop := [a % M256 < m % M256]
def powG (a x m : Nat) : SV := .one (sU ((a % M256) ^ (x % M256) % (m % M256)))
def cxPow : Cx := [(62, specUUU prodC prodG), (80, specU noughtsG)]
def zeroU : List SK := [.c (.num .u64 0), .c (.num .u64 0), .c (.num .u64 0), .c (.num .u64 0)]
def invPow (a x m : Nat) : Inv where
  X := Nat
  tm j := slotsAt 23 [(0, .one (sU x)), (1, .one (.sc (.fn 85 [.p 4 0, .p 2 0, .p 0 0]))), (2, .one (.sc (.ptr 5 0))), (4, .one (sI .i64 ((j : Int) - 1)))]
  ob j := [.cells 24 [.u a] 0, .cells 24 [.u x] 0, .cells 24 [.u m] 0, .cells 24 zeroU 0, .cells 24 [.u ((a % M256) ^ (x % M256 / 2 ^ j) % (m % M256))] 0, .cells 24 [.u x] 0]
  holds j := j ≤ 256
  less j := j
def pE (a m : Nat) : Int := if m % M256 = 0 then 7 else if a % M256 < m % M256 then 0 else 6
def fpowG (a x m : Nat) : SV := .tup [sU (if pE a m = 0 then (a % M256) ^ (x % M256) % (m % M256) else 0), sI .i64 (pE a m)]
def cxFpow : Cx := [(77, specUU cmpG), (64, specUUU powC powG)]
-- VC vc_power HASH b1eab28b9720fc76
theorem vc_power (a x m : Nat) :
    Owes Try.prog cxPow [((84 + 1) * 100000 + 2, .inv (invPow a x m))] 100 Try.f64 [sU a, sU x, sU m] (powG a x m) =
    (let x1 : Nat := m % Go.Sx.M256; let x2 : Nat := a % Go.Sx.M256; let x3 : Nat := x % Go.Sx.M256; let x4 : Nat := x2 ^ x3 % x1 % Go.Sx.M256; (Go.Sx.conj [(1 : Nat) == x1] = Bool.true → (0 : Nat) = x4 ∧ True) ∧ (Go.Sx.conj [(1 : Nat) == x1] = Bool.false → (∀ (y : Nat), Go.Sx.closedB (Go.Sx.slotsAt (23 : Nat) [((0 : Nat), Go.Sx.SV.one (Go.Sx.sU x)), ((1 : Nat), Go.Sx.SV.one (Go.Sx.SA.sc (Go.Sx.SC.fn (85 : Nat) [Go.Sx.PV.p (4 : Nat) (0 : Nat), Go.Sx.PV.p (2 : Nat) (0 : Nat), Go.Sx.PV.p (0 : Nat) (0 : Nat)]))), ((2 : Nat), Go.Sx.SV.one (Go.Sx.SA.sc (Go.Sx.SC.ptr (5 : Nat) (0 : Nat)))), ((4 : Nat), Go.Sx.SV.one (Go.Sx.sI Go.IntKind.i64 ((↑y : Int) - (1 : Int))))]) [Go.Sx.SO.cells (24 : Go.TypeId) [Go.Sx.SK.u a] (0 : Nat), Go.Sx.SO.cells (24 : Go.TypeId) [Go.Sx.SK.u x] (0 : Nat), Go.Sx.SO.cells (24 : Go.TypeId) [Go.Sx.SK.u m] (0 : Nat), Go.Sx.SO.cells (24 : Go.TypeId) zeroU (0 : Nat), Go.Sx.SO.cells (24 : Go.TypeId) [Go.Sx.SK.u (x2 ^ (x3 / (2 : Nat) ^ y) % x1)] (0 : Nat), Go.Sx.SO.cells (24 : Go.TypeId) [Go.Sx.SK.u x] (0 : Nat)] = Bool.true) ∧ ∃ (y : Nat), y ≤ (256 : Nat) ∧ x3 = x3 ∧ ((85 : Nat) = (85 : Nat) ∧ [Go.Sx.PV.p (match Bool.false with | Bool.true => (1 : Nat) | Bool.false => ([] ++ [Go.Sx.SO.cells (24 : Nat) (Go.Sx.toKs (Go.Sx.sU a)) (0 : Nat)] ++ [Go.Sx.SO.cells (24 : Nat) (Go.Sx.toKs (Go.Sx.sU x)) (0 : Nat)] ++ [Go.Sx.SO.cells (24 : Nat) (Go.Sx.toKs (Go.Sx.sU m)) (0 : Nat)] ++ [Go.Sx.SO.cells (24 : Nat) (List.map Go.Sx.litC (Go.Value.agg #[Go.Value.int Go.IntKind.u64 (0 : Int), Go.Value.int Go.IntKind.u64 (0 : Int), Go.Value.int Go.IntKind.u64 (0 : Int), Go.Value.int Go.IntKind.u64 (0 : Int)]).cells.toList) (0 : Nat)]).length) (0 : Nat), Go.Sx.PV.p (match Bool.false with | Bool.true => (2 : Nat) | Bool.false => ([] ++ [Go.Sx.SO.cells (24 : Nat) (Go.Sx.toKs (Go.Sx.sU a)) (0 : Nat)] ++ [Go.Sx.SO.cells (24 : Nat) (Go.Sx.toKs (Go.Sx.sU x)) (0 : Nat)]).length) (0 : Nat), Go.Sx.PV.p (0 : Nat) (0 : Nat)] = [Go.Sx.PV.p (4 : Nat) (0 : Nat), Go.Sx.PV.p (2 : Nat) (0 : Nat), Go.Sx.PV.p (0 : Nat) (0 : Nat)]) ∧ Go.IntKind.i64.wrap ((255 : Int) - (↑((256 : Nat) - bitsN x3) : Int)) = (↑y : Int) - (1 : Int) ∧ x2 = x2 ∧ (0 : Nat) = (0 : Nat) ∧ x3 = x3 ∧ (0 : Nat) = (0 : Nat) ∧ x1 = x1 ∧ (0 : Nat) = (0 : Nat) ∧ (0 : Nat) = (0 : Nat) ∧ ((1 : Nat) = x2 ^ (x3 / (2 : Nat) ^ y) % x1 % Go.Sx.M256 ∧ True) ∧ (0 : Nat) = (0 : Nat) ∧ x3 = x3 ∧ (0 : Nat) = (0 : Nat) ∧ ∀ (y : Nat), y ≤ (256 : Nat) → (Decidable.decide ((↑y : Int) - (1 : Int) ≥ (0 : Int)) = Bool.true → ((0 : Int) ≤ Go.IntKind.i64.wrap (((↑y : Int) - (1 : Int)).tdiv (64 : Int)) ∧ Go.IntKind.i64.wrap (((↑y : Int) - (1 : Int)).tdiv (64 : Int)) < (4 : Int)) ∧ ((0 : Int) ≤ Go.IntKind.i64.wrap (((↑y : Int) - (1 : Int)).tdiv (64 : Int)) ∧ Go.IntKind.i64.wrap (((↑y : Int) - (1 : Int)).tdiv (64 : Int)) < (4 : Int)) ∧ (0 : Int) ≤ ((↑y : Int) - (1 : Int)).tmod (64 : Int) ∧ x2 ^ (x3 / (2 : Nat) ^ y) % x1 % Go.Sx.M256 < x1 ∧ x2 ^ (x3 / (2 : Nat) ^ y) % x1 % Go.Sx.M256 < x1 ∧ ((Go.IntKind.u64.wrap (↑(BitVec.ofInt (64 : Nat) ((Go.Sx.limb x (Go.IntKind.i64.wrap (((↑y : Int) - (1 : Int)).tdiv (64 : Int))).toNat).fdiv ((2 : Int) ^ Min.min (((↑y : Int) - (1 : Int)).tmod (64 : Int)).toNat (64 : Nat))) &&& BitVec.ofInt (64 : Nat) (1 : Int)).toNat : Int) == (1 : Int)) = Bool.true → x2 ^ (x3 / (2 : Nat) ^ y) % x1 % Go.Sx.M256 * (x2 ^ (x3 / (2 : Nat) ^ y) % x1 % Go.Sx.M256) % x1 % Go.Sx.M256 < x1 ∧ x2 < x1 ∧ ∃ (y' : Nat), y' ≤ (256 : Nat) ∧ x3 = x3 ∧ ((85 : Nat) = (85 : Nat) ∧ [Go.Sx.PV.p (4 : Nat) (0 : Nat), Go.Sx.PV.p (2 : Nat) (0 : Nat), Go.Sx.PV.p (0 : Nat) (0 : Nat)] = [Go.Sx.PV.p (4 : Nat) (0 : Nat), Go.Sx.PV.p (2 : Nat) (0 : Nat), Go.Sx.PV.p (0 : Nat) (0 : Nat)]) ∧ Go.IntKind.i64.wrap ((↑y : Int) - (1 : Int) - (1 : Int)) = (↑y' : Int) - (1 : Int) ∧ x2 = x2 ∧ (0 : Nat) = (0 : Nat) ∧ x3 = x3 ∧ (0 : Nat) = (0 : Nat) ∧ x1 = x1 ∧ (0 : Nat) = (0 : Nat) ∧ (0 : Nat) = (0 : Nat) ∧ x2 ^ (x3 / (2 : Nat) ^ y) % x1 % Go.Sx.M256 * (x2 ^ (x3 / (2 : Nat) ^ y) % x1 % Go.Sx.M256) % x1 % Go.Sx.M256 * x2 % x1 % Go.Sx.M256 = x2 ^ (x3 / (2 : Nat) ^ y') % x1 % Go.Sx.M256 ∧ (0 : Nat) = (0 : Nat) ∧ x3 = x3 ∧ (0 : Nat) = (0 : Nat) ∧ y' < y) ∧ ((Go.IntKind.u64.wrap (↑(BitVec.ofInt (64 : Nat) ((Go.Sx.limb x (Go.IntKind.i64.wrap (((↑y : Int) - (1 : Int)).tdiv (64 : Int))).toNat).fdiv ((2 : Int) ^ Min.min (((↑y : Int) - (1 : Int)).tmod (64 : Int)).toNat (64 : Nat))) &&& BitVec.ofInt (64 : Nat) (1 : Int)).toNat : Int) == (1 : Int)) = Bool.false → ∃ (y' : Nat), y' ≤ (256 : Nat) ∧ x3 = x3 ∧ ((85 : Nat) = (85 : Nat) ∧ [Go.Sx.PV.p (4 : Nat) (0 : Nat), Go.Sx.PV.p (2 : Nat) (0 : Nat), Go.Sx.PV.p (0 : Nat) (0 : Nat)] = [Go.Sx.PV.p (4 : Nat) (0 : Nat), Go.Sx.PV.p (2 : Nat) (0 : Nat), Go.Sx.PV.p (0 : Nat) (0 : Nat)]) ∧ Go.IntKind.i64.wrap ((↑y : Int) - (1 : Int) - (1 : Int)) = (↑y' : Int) - (1 : Int) ∧ x2 = x2 ∧ (0 : Nat) = (0 : Nat) ∧ x3 = x3 ∧ (0 : Nat) = (0 : Nat) ∧ x1 = x1 ∧ (0 : Nat) = (0 : Nat) ∧ (0 : Nat) = (0 : Nat) ∧ x2 ^ (x3 / (2 : Nat) ^ y) % x1 % Go.Sx.M256 * (x2 ^ (x3 / (2 : Nat) ^ y) % x1 % Go.Sx.M256) % x1 % Go.Sx.M256 = x2 ^ (x3 / (2 : Nat) ^ y') % x1 % Go.Sx.M256 ∧ (0 : Nat) = (0 : Nat) ∧ x3 = x3 ∧ (0 : Nat) = (0 : Nat) ∧ y' < y)) ∧ (Decidable.decide ((↑y : Int) - (1 : Int) ≥ (0 : Int)) = Bool.false → x2 ^ (x3 / (2 : Nat) ^ y) % x1 % Go.Sx.M256 = x4 ∧ True))) := by kernel_rfl
-- END VC
-- VC vc_fPow HASH 63173778097e31b1
theorem vc_fPow (a x m : Nat) :
    Owes Try.prog cxFpow [] 100 Try.f33 [sU a, sU x, sU m] (fpowG a x m) =
    (let x1 : Nat := m % Go.Sx.M256; let x2 : Nat := a % Go.Sx.M256; let x3 : Nat := x2 ^ (x % Go.Sx.M256) % x1; let x4 : Nat := (if pE a m = (0 : Int) then x3 else (0 : Nat)) % Go.Sx.M256; (Go.Sx.conj [x1 == (0 : Nat)] = Bool.true → ((0 : Nat) = x4 ∧ True) ∧ (7 : Int) = pE a m) ∧ (Go.Sx.conj [x1 == (0 : Nat)] = Bool.false → (Decidable.decide (Go.Sx.cmpN a m ≥ (0 : Int)) = Bool.true → ((0 : Nat) = x4 ∧ True) ∧ (6 : Int) = pE a m) ∧ (Decidable.decide (Go.Sx.cmpN a m ≥ (0 : Int)) = Bool.false → x2 < x1 ∧ (x3 % Go.Sx.M256 = x4 ∧ True) ∧ (0 : Int) = pE a m))) := by kernel_rfl
-- END VC
end Go.Proofs.Ytbjdchpncbgpnaa
end

section
/-
  Package field: powers.
-/
namespace Go.Proofs.Ytbjdchpncbgpnaa
open Go.Sx

theorem and_one (v : Nat) (h : v < 18446744073709551616) : IntKind.u64.wrap ((BitVec.ofInt 64 (v : Int) &&& BitVec.ofInt 64 (1 : Int)).toNat : Int) = ((v % 2 : Nat) : Int) := by
  have b1 : (BitVec.ofInt 64 (v : Int)).toNat = v := by rw [BitVec.toNat_ofInt]; omega
  have b2 : (BitVec.ofInt 64 (1 : Int)).toNat = 1 := by decide
  rw [BitVec.toNat_and, b1, b2, Nat.and_one_is_mod, wrap_id (word_nat (by omega))]
theorem limb_bit (x j : Nat) (hj : j < 256) : (IntKind.u64.wrap ((BitVec.ofInt 64 ((limb x (j / 64)).fdiv ((2 ^ (j % 64) : Nat) : Int)) &&& BitVec.ofInt 64 (1 : Int)).toNat : Int) == 1) = (x % M256).testBit j := by
  have e : limb x (j / 64) = ((x / 2 ^ (64 * (j / 64)) % 2 ^ 64 : Nat) : Int) := rfl
  have hc : x / 2 ^ (64 * (j / 64)) % 2 ^ 64 < 18446744073709551616 := Nat.mod_lt _ (by decide)
  rw [e, fdiv_nat, and_one _ (Nat.lt_of_le_of_lt (Nat.div_le_self _ _) hc)]
  have h1 : (x / 2 ^ (64 * (j / 64)) % 2 ^ 64).testBit (j % 64) = (x % M256).testBit j := by
    rw [Nat.testBit_mod_two_pow, M_pow, Nat.testBit_mod_two_pow, Nat.testBit_div_two_pow]
    rw [decide_eq_true (Nat.mod_lt j (show 0 < 64 by decide)), decide_eq_true hj, Nat.mod_add_div]
  rw [← h1, Nat.testBit_eq_decide_div_mod_eq, Bool.eq_iff_iff, beq_iff_eq, decide_eq_true_eq]
  generalize x / 2 ^ (64 * (j / 64)) % 2 ^ 64 / 2 ^ (j % 64) = w
  omega
theorem half_step (X j : Nat) : X / 2 ^ j = 2 * (X / 2 ^ (j + 1)) + (X.testBit j).toNat := by
  rw [Nat.toNat_testBit, Nat.pow_succ, ← Nat.div_div_eq_div_mul]
  generalize X / 2 ^ j = w
  omega
theorem pow_zero_bit {a X m j : Nat} (h : X.testBit j = false) : a ^ (X / 2 ^ (j + 1)) % m * (a ^ (X / 2 ^ (j + 1)) % m) % m = a ^ (X / 2 ^ j) % m := by
  rw [half_step X j, h, ← Nat.mul_mod, ← Nat.pow_add]
  exact congrArg (fun v => a ^ v % m) (by simp; omega)
theorem pow_one_bit {a X m j : Nat} (h : X.testBit j = true) : a ^ (X / 2 ^ (j + 1)) % m * (a ^ (X / 2 ^ (j + 1)) % m) % m * a % m = a ^ (X / 2 ^ j) % m := by
  rw [half_step X j, h, ← Nat.mul_mod, ← Nat.pow_add, Nat.mod_mul_mod, ← Nat.pow_succ]
  exact congrArg (fun v => a ^ v % m) (by simp; omega)
theorem ok_power : ∀ a x m : Nat, Ok (powC a x m) → Owes Try.prog cxPow [((84 + 1) * 100000 + 2, .inv (invPow a x m))] 100 Try.f64 [sU a, sU x, sU m] (powG a x m) := by
  intro a x m hc
  obtain ⟨ha, _⟩ := hc
  rw [vc_power]
  have hM : 1 < M256 := by rw [M256_eq]; decide
  have hmM := Nat.mod_lt m (Nat.lt_trans Nat.zero_lt_one hM)
  have hxM := Nat.mod_lt x (Nat.lt_trans Nat.zero_lt_one hM)
  have hbl := bitsN_le (n := x % M256) (k := 256) hxM
  have hb0 : x % M256 / 2 ^ bitsN (x % M256) = 0 := by
    rcases Nat.eq_zero_or_pos (x % M256) with e | e
    · rw [e, Nat.zero_div]
    · exact Nat.div_eq_of_lt (bitsN_two _ (by omega)).1
  have hbit := fun j hj => limb_bit x j hj
  intro x1 x2 x3 x4
  have E1 : x1 = m % M256 := rfl
  have E2 : x2 = a % M256 := rfl
  have E3 : x3 = x % M256 := rfl
  have E4 : x4 = x2 ^ x3 % x1 % M256 := rfl
  clear_value x4 x3 x2 x1
  rw [← E1] at hmM
  rw [← E2, ← E1] at ha
  rw [← E3] at hbl hb0
  simp only [← E3] at hbit
  have hpos : 0 < x1 := by omega
  have hlt : ∀ v : Nat, v % x1 < M256 := fun v => Nat.lt_trans (Nat.mod_lt v hpos) hmM
  have hmm : ∀ v : Nat, v % x1 % M256 = v % x1 := fun v => Nat.mod_eq_of_lt (hlt v)
  refine ⟨fun h => ⟨?_, trivial⟩, fun h => ⟨fun _ => rfl, bitsN x3, hbl, rfl, ⟨rfl, rfl⟩, ?_, rfl, rfl, rfl, rfl, rfl, rfl, rfl, ⟨?_, trivial⟩, rfl, rfl, rfl, fun y hy => ⟨fun hc => ?_, fun hc => ⟨?_, trivial⟩⟩⟩⟩
  · have h : 1 = x1 := beq_iff_eq.1 h
    rw [E4, ← h, Nat.mod_one, Nat.zero_mod]
  · rw [IntWalk.i64_in _ (by omega)]
    omega
  · have h : 1 ≠ x1 := beq_eq_false_iff_ne.1 h
    rw [hb0, Nat.pow_zero, hmm, Nat.mod_eq_of_lt (by omega)]
  · have hy0 : 1 ≤ y := by have := of_decide_eq_true hc; omega
    obtain ⟨j, rfl⟩ : ∃ j, y = j + 1 := ⟨y - 1, by omega⟩
    have hj : j < 256 := by omega
    rw [show ((j + 1 : Nat) : Int) - 1 = (j : Int) by omega]
    have t1 : IntKind.i64.wrap ((j : Int).tdiv 64) = ((j / 64 : Nat) : Int) := by
      have e : (j : Int).tdiv 64 = ((j / 64 : Nat) : Int) := tdiv_nat j 64
      rw [e, IntWalk.i64_in _ (by omega)]
    have t2 : (j : Int).tmod 64 = ((j % 64 : Nat) : Int) := by
      rw [Int.tmod_eq_emod_of_nonneg (Int.natCast_nonneg _)]
      exact (Int.natCast_emod j 64).symm
    have t3 : IntKind.i64.wrap ((j : Int) - 1) = ((j : Nat) : Int) - 1 := IntWalk.i64_in _ (by omega)
    have hq : (0 : Int) ≤ ((j / 64 : Nat) : Int) ∧ ((j / 64 : Nat) : Int) < 4 := by omega
    rw [t1, t2, t3, two_min _ (by omega), Int.toNat_natCast, hbit j hj, hmm, hmm, hmm]
    refine ⟨hq, hq, nn _, Nat.mod_lt _ hpos, Nat.mod_lt _ hpos, fun hb => ⟨Nat.mod_lt _ hpos, ha, j, by omega, rfl, ⟨rfl, rfl⟩, rfl, rfl, rfl, rfl, rfl, rfl, rfl, rfl, ?_, rfl, rfl, rfl, by omega⟩, fun hb => ⟨j, by omega, rfl, ⟨rfl, rfl⟩, rfl, rfl, rfl, rfl, rfl, rfl, rfl, rfl, ?_, rfl, rfl, rfl, by omega⟩⟩
    · rw [pow_one_bit hb, hmm]
    · rw [pow_zero_bit hb, hmm]
  · have hy0 : y = 0 := by have := of_decide_eq_false hc; omega
    rw [hy0, Nat.pow_zero, Nat.div_one, E4]
theorem card_power : FnOK Try.prog 64 (specUUU powC powG) :=
  FnOK_UUU (CxOK_cons card_product (CxOK_cons card_fnoughts CxOK_nil)) (iv := fun a x m => [((84 + 1) * 100000 + 2, .inv (invPow a x m))]) (N := 100) Try.func64 (by kernel_rfl) (by kernel_rfl) (fun _ _ _ => bnd_one (bnd_U _)) ok_power

theorem p_all {a m r : Nat} :
    (m % M256 = 0 → 0 = (if pE a m = 0 then r else 0) % M256 ∧ 7 = pE a m) ∧
    (m % M256 ≠ 0 → m % M256 ≤ a % M256 → 0 = (if pE a m = 0 then r else 0) % M256 ∧ 6 = pE a m) ∧
    (m % M256 ≠ 0 → a % M256 < m % M256 → r % M256 = (if pE a m = 0 then r else 0) % M256 ∧ 0 = pE a m) := by
  refine ⟨fun h => ?_, fun h h' => ?_, fun h h1 => ?_⟩
  · have e : pE a m = 7 := by unfold pE; rw [if_pos h]
    rw [e, if_neg (by decide)]
    exact ⟨(Nat.zero_mod _).symm, rfl⟩
  · have e : pE a m = 6 := by unfold pE; rw [if_neg h, if_neg (by omega)]
    rw [e, if_neg (by decide)]
    exact ⟨(Nat.zero_mod _).symm, rfl⟩
  · have e : pE a m = 0 := by unfold pE; rw [if_neg h, if_pos h1]
    rw [e, if_pos rfl]
    exact ⟨rfl, rfl⟩
theorem ok_fPow : ∀ a x m : Nat, Ok (noC a x m) → Owes Try.prog cxFpow [] 100 Try.f33 [sU a, sU x, sU m] (fpowG a x m) := by
  intro a x m _
  rw [vc_fPow]
  intro x1 x2 x3 x4
  obtain ⟨f1, f2, f3⟩ := p_all (a := a) (m := m) (r := (a % M256) ^ (x % M256) % (m % M256))
  refine ⟨fun h => ?_, fun h => ⟨fun h1 => ?_, fun h1 => ?_⟩⟩
  · obtain ⟨p, q⟩ := f1 (beq_iff_eq.1 h)
    exact ⟨⟨p, trivial⟩, q⟩
  · obtain ⟨p, q⟩ := f2 (beq_eq_false_iff_ne.1 h) (cmp_ge.1 (of_decide_eq_true h1))
    exact ⟨⟨p, trivial⟩, q⟩
  · have l1 : a % M256 < m % M256 := Nat.lt_of_not_le fun c => of_decide_eq_false h1 (cmp_ge.2 c)
    obtain ⟨p, q⟩ := f3 (beq_eq_false_iff_ne.1 h) l1
    exact ⟨l1, ⟨p, trivial⟩, q⟩
theorem card_fPow : FnOK Try.prog 33 (specUUU noC fpowG) :=
  FnOK_UUU (CxOK_cons card_Cmp (CxOK_cons card_power CxOK_nil)) (iv := fun _ _ _ => []) (N := 100) Try.func33 (by kernel_rfl) (by kernel_rfl) (fun _ _ _ => bnd_two (bnd_U _) (bnd_I _ _)) ok_fPow
end Go.Proofs.Ytbjdchpncbgpnaa
end

section
/-
  The reference's powers by a modulus: reckoned by the kernel. (Laid by program.)
-/
namespace Go.Proofs.Ytbjdchpncbgpnaa
open Go Go.Sx Go.RowKit
set_option maxRecDepth 100000
def u4z : List SK := List.replicate 4 (.c (.num .u64 0))
def invRPo (_ x m : Nat) (A O : Nat → Nat) : Inv where
  X := Nat
  tm y := slotsAt 37 [(3, .one (.sc (.ptr 0 0))), (4, .one (.sc (.ptr 1 0))), (5, .one (.sc (.ptr 2 0))), (6, .one (.sc (.ptr 3 0))), (7, .one (.sc (.ptr 5 0))), (14, .one (sU x)), (15, .one (sI .i64 (y : Int)))]
  ob y := [.cells 24 [.u (A (64 * y))] 0, .cells 24 [.u x] 0, .cells 24 [.u m] 0, .cells 24 u4z 0, .dead, .cells 24 [.u (O (64 * y))] 0]
  holds y := y ≤ 4
  less y := 4 - y
def invRPi (_ x m : Nat) (A O : Nat → Nat) : Inv where
  X := Nat × Nat
  tm y := slotsAt 37 [(3, .one (.sc (.ptr 0 0))), (4, .one (.sc (.ptr 1 0))), (5, .one (.sc (.ptr 2 0))), (6, .one (.sc (.ptr 3 0))), (7, .one (.sc (.ptr 5 0))), (9, .one (sI .u64 (limb x y.1))), (10, .one (sI .i64 (y.2 : Int))), (14, .one (sU x)), (15, .one (sI .i64 (y.1 : Int)))]
  ob y := [.cells 24 [.u (A (64 * y.1 + y.2))] 0, .cells 24 [.u x] 0, .cells 24 [.u m] 0, .cells 24 u4z 0, .dead, .cells 24 [.u (O (64 * y.1 + y.2))] 0]
  holds y := y.1 < 4 ∧ y.2 ≤ 64
  less y := 64 - y.2
def rpoC (a _ m : Nat) : List Prop := [m % M256 ≠ 0, a % M256 < m % M256]
def rpoG (a x m : Nat) : SV := .one (sU ((a % M256) ^ (x % M256) % (m % M256)))
def cxRPo : Cx := [(61, specUUU proC proG)]
def cxRPw : Cx := [(78, specUU ordG), (65, specUUU rpoC rpoG)]
def cxFPw : Cx := [(33, specUUU noC fpowG), (34, specUUU noC fpowG)]
-- VC vc_refPower HASH f167ba1e38ff9222
theorem vc_refPower (a x m : Nat) (A O : Nat → Nat) (r : Nat) :
    OwesV Try.prog cxRPo slRest [(3, .inv (invRPo a x m A O)), (6, .invR (invRPi a x m A O) (fun y z => z.1 = y.1))] 4 Try.f65 [sU a, sU x, sU m] (.one (sU r)) =
    (let x1 : Nat := m % Go.Sx.M256; let x2 : Nat := x % Go.Sx.M256; (1 : Nat) ≤ (1 : Nat) ∧ ∀ (_ : Go.Addr), (∀ (_ : Nat), True) ∧ (Go.Sx.dgs (1 : Nat) fun (i : Nat) => Go.Sx.intsC (Go.Sx.SC.val (Go.Value.int (Go.IntKind.u64, (1 : Int)).fst (Go.Sx.selG [Go.Sx.SK.c (Go.Sx.SC.num Go.IntKind.u64 (1 : Int))] i)))) ∧ (1 : Nat) ≤ (1000 : Nat) ∧ x1 ≠ (0 : Nat) ∧ (∀ (y : Nat), Go.Sx.closedB (Go.Sx.slotsAt (37 : Nat) [((3 : Nat), Go.Sx.SV.one (Go.Sx.SA.sc (Go.Sx.SC.ptr (0 : Nat) (0 : Nat)))), ((4 : Nat), Go.Sx.SV.one (Go.Sx.SA.sc (Go.Sx.SC.ptr (1 : Nat) (0 : Nat)))), ((5 : Nat), Go.Sx.SV.one (Go.Sx.SA.sc (Go.Sx.SC.ptr (2 : Nat) (0 : Nat)))), ((6 : Nat), Go.Sx.SV.one (Go.Sx.SA.sc (Go.Sx.SC.ptr (3 : Nat) (0 : Nat)))), ((7 : Nat), Go.Sx.SV.one (Go.Sx.SA.sc (Go.Sx.SC.ptr (5 : Nat) (0 : Nat)))), ((14 : Nat), Go.Sx.SV.one (Go.Sx.sU x)), ((15 : Nat), Go.Sx.SV.one (Go.Sx.sI Go.IntKind.i64 (↑y : Int)))]) [Go.Sx.SO.cells (24 : Go.TypeId) [Go.Sx.SK.u (A ((64 : Nat) * y))] (0 : Nat), Go.Sx.SO.cells (24 : Go.TypeId) [Go.Sx.SK.u x] (0 : Nat), Go.Sx.SO.cells (24 : Go.TypeId) [Go.Sx.SK.u m] (0 : Nat), Go.Sx.SO.cells (24 : Go.TypeId) u4z (0 : Nat), Go.Sx.SO.dead, Go.Sx.SO.cells (24 : Go.TypeId) [Go.Sx.SK.u (O ((64 : Nat) * y))] (0 : Nat)] = Bool.true) ∧ ∃ (y : Nat), y ≤ (4 : Nat) ∧ x2 = x2 ∧ (0 : Int) = (↑y : Int) ∧ a % Go.Sx.M256 = A ((64 : Nat) * y) % Go.Sx.M256 ∧ (0 : Nat) = (0 : Nat) ∧ x2 = x2 ∧ (0 : Nat) = (0 : Nat) ∧ x1 = x1 ∧ (0 : Nat) = (0 : Nat) ∧ (0 : Nat) = (0 : Nat) ∧ (1 : Nat) % x1 % Go.Sx.M256 = O ((64 : Nat) * y) % Go.Sx.M256 ∧ (0 : Nat) = (0 : Nat) ∧ ∀ (y : Nat), y ≤ (4 : Nat) → (Decidable.decide ((↑y : Int) < (4 : Int)) = Bool.true → ((0 : Int) ≤ (↑y : Int) ∧ (↑y : Int) < (4 : Int)) ∧ (∀ (y : Nat × Nat), Go.Sx.closedB (Go.Sx.slotsAt (37 : Nat) [((3 : Nat), Go.Sx.SV.one (Go.Sx.SA.sc (Go.Sx.SC.ptr (0 : Nat) (0 : Nat)))), ((4 : Nat), Go.Sx.SV.one (Go.Sx.SA.sc (Go.Sx.SC.ptr (1 : Nat) (0 : Nat)))), ((5 : Nat), Go.Sx.SV.one (Go.Sx.SA.sc (Go.Sx.SC.ptr (2 : Nat) (0 : Nat)))), ((6 : Nat), Go.Sx.SV.one (Go.Sx.SA.sc (Go.Sx.SC.ptr (3 : Nat) (0 : Nat)))), ((7 : Nat), Go.Sx.SV.one (Go.Sx.SA.sc (Go.Sx.SC.ptr (5 : Nat) (0 : Nat)))), ((9 : Nat), Go.Sx.SV.one (Go.Sx.sI Go.IntKind.u64 (Go.Sx.limb x y.fst))), ((10 : Nat), Go.Sx.SV.one (Go.Sx.sI Go.IntKind.i64 (↑y.snd : Int))), ((14 : Nat), Go.Sx.SV.one (Go.Sx.sU x)), ((15 : Nat), Go.Sx.SV.one (Go.Sx.sI Go.IntKind.i64 (↑y.fst : Int)))]) [Go.Sx.SO.cells (24 : Go.TypeId) [Go.Sx.SK.u (A ((64 : Nat) * y.fst + y.snd))] (0 : Nat), Go.Sx.SO.cells (24 : Go.TypeId) [Go.Sx.SK.u x] (0 : Nat), Go.Sx.SO.cells (24 : Go.TypeId) [Go.Sx.SK.u m] (0 : Nat), Go.Sx.SO.cells (24 : Go.TypeId) u4z (0 : Nat), Go.Sx.SO.dead, Go.Sx.SO.cells (24 : Go.TypeId) [Go.Sx.SK.u (O ((64 : Nat) * y.fst + y.snd))] (0 : Nat)] = Bool.true) ∧ ∃ (y0 : Nat × Nat), ((y0.fst < (4 : Nat) ∧ y0.snd ≤ (64 : Nat)) ∧ y0.fst = y0.fst) ∧ Go.Sx.limb x (↑y : Int).toNat = Go.Sx.limb x y0.fst ∧ (0 : Int) = (↑y0.snd : Int) ∧ x2 = x2 ∧ (↑y : Int) = (↑y0.fst : Int) ∧ A ((64 : Nat) * y) % Go.Sx.M256 = A ((64 : Nat) * y0.fst + y0.snd) % Go.Sx.M256 ∧ (0 : Nat) = (0 : Nat) ∧ x2 = x2 ∧ (0 : Nat) = (0 : Nat) ∧ x1 = x1 ∧ (0 : Nat) = (0 : Nat) ∧ (0 : Nat) = (0 : Nat) ∧ O ((64 : Nat) * y) % Go.Sx.M256 = O ((64 : Nat) * y0.fst + y0.snd) % Go.Sx.M256 ∧ (0 : Nat) = (0 : Nat) ∧ ∀ (y_1 : Nat × Nat), y_1.fst < (4 : Nat) ∧ y_1.snd ≤ (64 : Nat) → y_1.fst = y0.fst → (Decidable.decide ((↑y_1.snd : Int) < (64 : Int)) = Bool.true → (0 : Int) ≤ (↑y_1.snd : Int) ∧ ((Go.IntKind.u64.wrap (↑(BitVec.ofInt (64 : Nat) ((Go.Sx.limb x y_1.fst).fdiv ((2 : Int) ^ Min.min (↑y_1.snd : Int).toNat (64 : Nat))) &&& BitVec.ofInt (64 : Nat) (1 : Int)).toNat : Int) == (1 : Int)) = Bool.true → x1 ≠ (0 : Nat) ∧ O ((64 : Nat) * y_1.fst + y_1.snd) % Go.Sx.M256 < x1 ∧ A ((64 : Nat) * y_1.fst + y_1.snd) % Go.Sx.M256 < x1 ∧ x1 ≠ (0 : Nat) ∧ A ((64 : Nat) * y_1.fst + y_1.snd) % Go.Sx.M256 < x1 ∧ A ((64 : Nat) * y_1.fst + y_1.snd) % Go.Sx.M256 < x1 ∧ ∃ (y' : Nat × Nat), ((y'.fst < (4 : Nat) ∧ y'.snd ≤ (64 : Nat)) ∧ y'.fst = y0.fst) ∧ Go.Sx.limb x y_1.fst = Go.Sx.limb x y'.fst ∧ Go.IntKind.i64.wrap ((↑y_1.snd : Int) + (1 : Int)) = (↑y'.snd : Int) ∧ x2 = x2 ∧ (↑y_1.fst : Int) = (↑y'.fst : Int) ∧ A ((64 : Nat) * y_1.fst + y_1.snd) % Go.Sx.M256 * (A ((64 : Nat) * y_1.fst + y_1.snd) % Go.Sx.M256) % x1 % Go.Sx.M256 = A ((64 : Nat) * y'.fst + y'.snd) % Go.Sx.M256 ∧ (0 : Nat) = (0 : Nat) ∧ x2 = x2 ∧ (0 : Nat) = (0 : Nat) ∧ x1 = x1 ∧ (0 : Nat) = (0 : Nat) ∧ (0 : Nat) = (0 : Nat) ∧ O ((64 : Nat) * y_1.fst + y_1.snd) % Go.Sx.M256 * (A ((64 : Nat) * y_1.fst + y_1.snd) % Go.Sx.M256) % x1 % Go.Sx.M256 = O ((64 : Nat) * y'.fst + y'.snd) % Go.Sx.M256 ∧ (0 : Nat) = (0 : Nat) ∧ (64 : Nat) - y'.snd < (64 : Nat) - y_1.snd) ∧ ((Go.IntKind.u64.wrap (↑(BitVec.ofInt (64 : Nat) ((Go.Sx.limb x y_1.fst).fdiv ((2 : Int) ^ Min.min (↑y_1.snd : Int).toNat (64 : Nat))) &&& BitVec.ofInt (64 : Nat) (1 : Int)).toNat : Int) == (1 : Int)) = Bool.false → x1 ≠ (0 : Nat) ∧ A ((64 : Nat) * y_1.fst + y_1.snd) % Go.Sx.M256 < x1 ∧ A ((64 : Nat) * y_1.fst + y_1.snd) % Go.Sx.M256 < x1 ∧ ∃ (y' : Nat × Nat), ((y'.fst < (4 : Nat) ∧ y'.snd ≤ (64 : Nat)) ∧ y'.fst = y0.fst) ∧ Go.Sx.limb x y_1.fst = Go.Sx.limb x y'.fst ∧ Go.IntKind.i64.wrap ((↑y_1.snd : Int) + (1 : Int)) = (↑y'.snd : Int) ∧ x2 = x2 ∧ (↑y_1.fst : Int) = (↑y'.fst : Int) ∧ A ((64 : Nat) * y_1.fst + y_1.snd) % Go.Sx.M256 * (A ((64 : Nat) * y_1.fst + y_1.snd) % Go.Sx.M256) % x1 % Go.Sx.M256 = A ((64 : Nat) * y'.fst + y'.snd) % Go.Sx.M256 ∧ (0 : Nat) = (0 : Nat) ∧ x2 = x2 ∧ (0 : Nat) = (0 : Nat) ∧ x1 = x1 ∧ (0 : Nat) = (0 : Nat) ∧ (0 : Nat) = (0 : Nat) ∧ O ((64 : Nat) * y_1.fst + y_1.snd) % Go.Sx.M256 = O ((64 : Nat) * y'.fst + y'.snd) % Go.Sx.M256 ∧ (0 : Nat) = (0 : Nat) ∧ (64 : Nat) - y'.snd < (64 : Nat) - y_1.snd)) ∧ (Decidable.decide ((↑y_1.snd : Int) < (64 : Int)) = Bool.false → ∃ (y' : Nat), y' ≤ (4 : Nat) ∧ x2 = x2 ∧ Go.IntKind.i64.wrap ((↑y_1.fst : Int) + (1 : Int)) = (↑y' : Int) ∧ A ((64 : Nat) * y_1.fst + y_1.snd) % Go.Sx.M256 = A ((64 : Nat) * y') % Go.Sx.M256 ∧ (0 : Nat) = (0 : Nat) ∧ x2 = x2 ∧ (0 : Nat) = (0 : Nat) ∧ x1 = x1 ∧ (0 : Nat) = (0 : Nat) ∧ (0 : Nat) = (0 : Nat) ∧ O ((64 : Nat) * y_1.fst + y_1.snd) % Go.Sx.M256 = O ((64 : Nat) * y') % Go.Sx.M256 ∧ (0 : Nat) = (0 : Nat) ∧ (4 : Nat) - y' < (4 : Nat) - y)) ∧ (Decidable.decide ((↑y : Int) < (4 : Int)) = Bool.false → O ((64 : Nat) * y) % Go.Sx.M256 = r % Go.Sx.M256 ∧ True)) := by kernel_rfl
-- END VC
-- VC vc_refPow HASH d0e4b2b4bcf9d56e
theorem vc_refPow (a x m : Nat) (r : Nat) (e : Int) :
    OwesV Try.prog cxRPw [] [] 4 Try.f34 [sU a, sU x, sU m] (.tup [sU r, sI .i64 e]) =
    (let x1 : Nat := m % Go.Sx.M256; let x2 : Nat := r % Go.Sx.M256; let x3 : Nat := a % Go.Sx.M256; let x4 : Int := Go.Sx.cmpI x3 x1; (Go.Sx.conj [x1 == (0 : Nat)] = Bool.true → ((0 : Nat) = x2 ∧ True) ∧ (7 : Int) = e) ∧ (Go.Sx.conj [x1 == (0 : Nat)] = Bool.false → (Decidable.decide (x4 ≥ (0 : Int)) = Bool.true → ((0 : Nat) = x2 ∧ True) ∧ (6 : Int) = e) ∧ (Decidable.decide (x4 ≥ (0 : Int)) = Bool.false → x1 ≠ (0 : Nat) ∧ x3 < x1 ∧ (x3 ^ (x % Go.Sx.M256) % x1 % Go.Sx.M256 = x2 ∧ True) ∧ (0 : Int) = e))) := by kernel_rfl
-- END VC
-- VC vc_FieldPowers HASH a8df816bc6331900
theorem vc_FieldPowers (a x m : Nat) :
    Owes Try.prog cxFPw [] 10 Try.f11 [sU a, sU x, sU m] yes =
    (let x1 : Nat := (if pE a m = (0 : Int) then (a % Go.Sx.M256) ^ (x % Go.Sx.M256) % (m % Go.Sx.M256) else (0 : Nat)) % Go.Sx.M256; let x2 : Bool := Go.Sx.conj [x1 == x1]; (x2 = Bool.true → x2 = Bool.true) ∧ (x2 = Bool.true → x2 = Bool.true) ∧ (x2 = Bool.true → x2 = Bool.true) ∧ (x2 && pE a m == pE a m) = Bool.true) := by kernel_rfl
-- END VC
end Go.Proofs.Ytbjdchpncbgpnaa
end

section
/-
  The reference's powers by a modulus; the law of powers.
-/
namespace Go.Proofs.Ytbjdchpncbgpnaa
open Go Go.Sx Go.RowKit

theorem mod2_succ (x j : Nat) : x % 2 ^ (j + 1) = x % 2 ^ j + 2 ^ j * (x.testBit j).toNat := by rw [Nat.mod_pow_succ, Nat.toNat_testBit]
def pwA (a m j : Nat) : Nat := a ^ (2 ^ j) % m
def pwO (a x m j : Nat) : Nat := a ^ (x % 2 ^ j) % m
theorem pwA_step (a m j : Nat) : pwA a m j * pwA a m j % m = pwA a m (j + 1) := by
  unfold pwA
  rw [← Nat.mul_mod, ← Nat.pow_add, Nat.pow_succ 2 j]
  exact congrArg (fun v => a ^ v % m) (by omega)
theorem pwO_one {a x m j : Nat} (h : x.testBit j = true) : pwO a x m j * pwA a m j % m = pwO a x m (j + 1) := by
  unfold pwO pwA
  rw [← Nat.mul_mod, ← Nat.pow_add, mod2_succ, h]
  exact congrArg (fun v => a ^ v % m) (by simp)
theorem pwO_zero {a x m j : Nat} (h : x.testBit j = false) : pwO a x m j = pwO a x m (j + 1) := by
  unfold pwO
  rw [mod2_succ, h]
  exact congrArg (fun v => a ^ v % m) (by simp)
theorem ok_refPower (a x m : Nat) (hm : m % M256 ≠ 0) (ha : a % M256 < m % M256) :
    OwesV Try.prog cxRPo slRest [(3, .inv (invRPo a x m (pwA (a % M256) (m % M256)) (pwO (a % M256) (x % M256) (m % M256)))), (6, .invR (invRPi a x m (pwA (a % M256) (m % M256)) (pwO (a % M256) (x % M256) (m % M256))) (fun y z => z.1 = y.1))] 4 Try.f65 [sU a, sU x, sU m] (rpoG a x m) := by
  unfold rpoG
  rw [vc_refPower]
  have hbit := fun j hj => limb_bit x j hj
  have hxM := modM x
  have hmM := modM m
  have M0 : 0 < M256 := by decide
  intro x1 x2
  have E1 : x1 = m % M256 := rfl
  have E2 : x2 = x % M256 := rfl
  rw [← E1] at hm ha hmM
  rw [← E2] at hxM
  simp only [← E2] at hbit
  rw [← E1, ← E2]
  clear_value x1 x2
  generalize a % M256 = a' at *
  have hpos : 0 < x1 := by omega
  have hlt : ∀ v : Nat, v % x1 < M256 := fun v => Nat.lt_trans (Nat.mod_lt v hpos) hmM
  have hmm : ∀ v : Nat, v % x1 % M256 = v % x1 := fun v => Nat.mod_eq_of_lt (hlt v)
  have hA : ∀ j, pwA a' x1 j % M256 = pwA a' x1 j := fun j => hmm _
  have hO : ∀ j, pwO a' x2 x1 j % M256 = pwO a' x2 x1 j := fun j => hmm _
  have lA : ∀ j, pwA a' x1 j < x1 := fun j => Nat.mod_lt _ hpos
  have lO : ∀ j, pwO a' x2 x1 j < x1 := fun j => Nat.mod_lt _ hpos
  refine ⟨Nat.le_refl _, fun _ => ⟨fun _ => trivial, ⟨fun i hi => ?_⟩, by decide, hm, fun _ => rfl, 0, by decide, rfl, rfl, ?_, rfl, rfl, rfl, rfl, rfl, rfl, ?_, rfl, fun w hw => ⟨fun h1 => ⟨⟨by omega, of_decide_eq_true h1⟩, fun _ => rfl, (w, 0), ⟨⟨?_, by show 0 ≤ 64; omega⟩, rfl⟩, by rw [Int.toNat_natCast], rfl, rfl, rfl, rfl, rfl, rfl, rfl, rfl, rfl, rfl, rfl, rfl, fun ⟨w', i⟩ ⟨hw', hi⟩ e => ⟨fun h2 => ⟨by omega, fun h3 => ?_, fun h3 => ?_⟩, fun h2 => ?_⟩⟩, fun h1 => ?_⟩⟩⟩
  · have : i = 0 := by omega
    subst this
    exact ⟨by decide, by decide⟩
  · show a' = pwA a' x1 (64 * 0) % M256
    rw [hA]
    unfold pwA
    rw [Nat.mul_zero, Nat.pow_zero, Nat.pow_one, Nat.mod_eq_of_lt ha]
  · show 1 % x1 % M256 = pwO a' x2 x1 (64 * 0) % M256
    rw [hO, hmm]
    unfold pwO
    rw [Nat.mul_zero, Nat.pow_zero, Nat.mod_one, Nat.pow_zero]
  · have h1 : (w : Int) < 4 := of_decide_eq_true h1
    show w < 4; omega
  · have e : w' = w := e
    subst e
    have hw' : w' < 4 := hw'
    have h2 : (i : Int) < 64 := of_decide_eq_true h2
    have hb := hbit (64 * w' + i) (by omega)
    rw [show (64 * w' + i) / 64 = w' by omega, show (64 * w' + i) % 64 = i by omega] at hb
    have h3 : (IntKind.u64.wrap (↑(BitVec.ofInt 64 ((limb x w').fdiv (2 ^ Min.min ((i : Int)).toNat 64)) &&& BitVec.ofInt 64 1).toNat) == 1) = true := h3
    rw [two_min i (by omega), hb] at h3
    have K : pwA a' x1 (64 * w' + i) % M256 < x1 := by rw [hA]; exact lA _
    have L : pwO a' x2 x1 (64 * w' + i) % M256 < x1 := by rw [hO]; exact lO _
    refine ⟨hm, L, K, hm, K, K, (w', i + 1), ⟨⟨hw', by show i + 1 ≤ 64; omega⟩, rfl⟩, rfl, ?_, rfl, rfl, ?_, rfl, rfl, rfl, rfl, rfl, rfl, ?_, rfl, by show 64 - (i + 1) < 64 - i; omega⟩
    · show IntKind.i64.wrap ((i : Int) + 1) = ((i + 1 : Nat) : Int)
      rw [wrapi (by omega)]; rfl
    · show pwA a' x1 (64 * w' + i) % M256 * (pwA a' x1 (64 * w' + i) % M256) % x1 % M256 = pwA a' x1 (64 * w' + (i + 1)) % M256
      rw [hA, pwA_step, ← Nat.add_assoc]
    · show pwO a' x2 x1 (64 * w' + i) % M256 * (pwA a' x1 (64 * w' + i) % M256) % x1 % M256 = pwO a' x2 x1 (64 * w' + (i + 1)) % M256
      rw [hA, hO, pwO_one h3, ← Nat.add_assoc]
  · have e : w' = w := e
    subst e
    have hw' : w' < 4 := hw'
    have h2 : (i : Int) < 64 := of_decide_eq_true h2
    have hb := hbit (64 * w' + i) (by omega)
    rw [show (64 * w' + i) / 64 = w' by omega, show (64 * w' + i) % 64 = i by omega] at hb
    have h3 : (IntKind.u64.wrap (↑(BitVec.ofInt 64 ((limb x w').fdiv (2 ^ Min.min ((i : Int)).toNat 64)) &&& BitVec.ofInt 64 1).toNat) == 1) = false := h3
    rw [two_min i (by omega), hb] at h3
    have K : pwA a' x1 (64 * w' + i) % M256 < x1 := by rw [hA]; exact lA _
    refine ⟨hm, K, K, (w', i + 1), ⟨⟨hw', by show i + 1 ≤ 64; omega⟩, rfl⟩, rfl, ?_, rfl, rfl, ?_, rfl, rfl, rfl, rfl, rfl, rfl, ?_, rfl, by show 64 - (i + 1) < 64 - i; omega⟩
    · show IntKind.i64.wrap ((i : Int) + 1) = ((i + 1 : Nat) : Int)
      rw [wrapi (by omega)]; rfl
    · show pwA a' x1 (64 * w' + i) % M256 * (pwA a' x1 (64 * w' + i) % M256) % x1 % M256 = pwA a' x1 (64 * w' + (i + 1)) % M256
      rw [hA, pwA_step, ← Nat.add_assoc]
    · show pwO a' x2 x1 (64 * w' + i) % M256 = pwO a' x2 x1 (64 * w' + (i + 1)) % M256
      rw [pwO_zero h3, ← Nat.add_assoc]
  · have e : w' = w := e
    subst e
    have hi : i ≤ 64 := hi
    have h2 : ¬ (i : Int) < 64 := of_decide_eq_false h2
    have : i = 64 := by omega
    subst this
    have hw' : w' < 4 := hw'
    refine ⟨w' + 1, by omega, rfl, ?_, ?_, rfl, rfl, rfl, rfl, rfl, rfl, ?_, rfl, by omega⟩
    · show IntKind.i64.wrap ((w' : Int) + 1) = ((w' + 1 : Nat) : Int)
      rw [wrapi (by omega)]; rfl
    · rfl
    · rfl
  · have h1 : ¬ (w : Int) < 4 := of_decide_eq_false h1
    have : w = 4 := by omega
    subst this
    refine ⟨?_, trivial⟩
    unfold pwO
    rw [show 64 * 4 = 256 by rfl, Nat.mod_eq_of_lt (show x2 < 2 ^ 256 from hxM)]
theorem card_refPower : FnOK Try.prog 65 (specUUU rpoC rpoG) :=
  FnOKV_UUU (iv := fun a x m => [(3, .inv (invRPo a x m (pwA (a % M256) (m % M256)) (pwO (a % M256) (x % M256) (m % M256)))), (6, .invR (invRPi a x m (pwA (a % M256) (m % M256)) (pwO (a % M256) (x % M256) (m % M256))) (fun y z => z.1 = y.1))]) (CxOK_cons card_refPro CxOK_nil) sl_rest Try.func65 (by kernel_rfl) (by kernel_rfl) (fun _ _ _ => bnd_Un _) fun a x m ⟨h1, h2, _⟩ => ok_refPower a x m h1 h2
theorem ok_refPow (a x m : Nat) : OwesV Try.prog cxRPw [] [] 4 Try.f34 [sU a, sU x, sU m] (fpowG a x m) := by
  unfold fpowG
  obtain ⟨r, hr⟩ : ∃ r, r = (if pE a m = 0 then (a % M256) ^ (x % M256) % (m % M256) else 0) := ⟨_, rfl⟩
  obtain ⟨e, he⟩ : ∃ e, e = pE a m := ⟨_, rfl⟩
  rw [← hr, ← he, vc_refPow]
  intro x1 x2 x3 x4
  have M0 : 0 % M256 = 0 := Nat.zero_mod _
  have E1 : x1 = m % M256 := rfl
  have E2 : x2 = r % M256 := rfl
  have E3 : x3 = a % M256 := rfl
  have z : pE a m ≠ 0 → 0 = x2 := fun h => by rw [E2, hr, if_neg h, M0]
  refine ⟨fun h0 => ?_, fun h0 => ⟨fun h1 => ?_, fun h1 => ?_⟩⟩
  · rw [eq0_conj] at h0
    have h0 : m % M256 = 0 := eq_of_beq h0
    have f : pE a m = 7 := by unfold pE; rw [if_pos h0]
    exact ⟨⟨z (by rw [f]; decide), trivial⟩, by rw [he, f]⟩
  all_goals
    rw [eq0_conj] at h0
    have h0 : m % M256 ≠ 0 := ne_of_beq_false h0
  · have h1 : m % M256 ≤ a % M256 := cmpI_ge0.1 h1
    have f : pE a m = 6 := by unfold pE; rw [if_neg h0, if_neg (by omega)]
    exact ⟨⟨z (by rw [f]; decide), trivial⟩, by rw [he, f]⟩
  · have h1 : a % M256 < m % M256 := cmpI_lt0.1 h1
    have f : pE a m = 0 := by unfold pE; rw [if_neg h0, if_pos h1]
    rw [if_pos f] at hr
    exact ⟨h0, h1, ⟨by rw [E2, hr], trivial⟩, by rw [he, f]⟩
theorem card_refPow : FnOK Try.prog 34 (specUUU noC fpowG) :=
  FnOKV_UUU (iv := fun _ _ _ => []) (CxOK_cons card_refOrd (CxOK_cons card_refPower CxOK_nil)) sl_nil Try.func34 (by kernel_rfl) (by kernel_rfl) (fun _ _ _ x hx => by
    simp only [List.mem_cons, List.not_mem_nil, or_false] at hx
    rcases hx with rfl | rfl
    · exact bnd_Un _
    · trivial) fun a x m _ => ok_refPow a x m
theorem ok_FieldPowers : ∀ a x m : Nat, Owes Try.prog cxFPw [] 10 Try.f11 [sU a, sU x, sU m] yes := by
  intro a x m
  rw [vc_FieldPowers]
  intro x1 x2
  have e2 : x2 = true := conj_self x1
  refine ⟨id, id, id, ?_⟩
  rw [e2, beq_self_eq_true]; rfl
theorem cxok_FPw : CxOK Try.prog cxFPw := CxOK_cons card_fPow (CxOK_cons card_refPow CxOK_nil)
end Go.Proofs.Ytbjdchpncbgpnaa
end
