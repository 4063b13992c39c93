/-
  Texts: P26, P27, P30, P31, P32, P33, P34, P35, P36, P39, P40, P41, Ptab, P37, P38, P38s, P42, V15, V50, P43, P44, P80.
-/
import Derived.Test.YtbfcccoeekonlaaDoorM1
import Derived.Test.YtbfcccoeekonlaaDoorM2
import Derived.Test.YtbfcccoeekonlaaDoorM3
import Derived.Test.YtbfcccoeekonlaaDoorM4
import Derived.Test.YtbfcccoeekonlaaDoorM5
import Derived.Test.YtbfcccoeekonlaaDoorM6
import Derived.Test.YtbfcccoeekonlaaDoorM7
import Derived.Test.YtbfcccoeekonlaaDoorM8
import Derived.Test.YtbfcccoeekonlaaDoorM9
import Derived.Test.YtbfcccoeekonlaaDoorM10
import Init
import Derived.KernelRfl
section
/-
  Package field: a part brought down; a number less another one some times; one bit; the product.
-/
namespace Go.Proofs.YtbfcccoeekonlaaDoor
open Go.Sx

/-- One digit: the guess, and what it leaves. -/
theorem dig_core (r X b : Nat) (bX : X < 18446744073709551616) (hrb : r % M256 < b % M256) (hbt : M256 ≤ 2 * (b % M256)) :
    ∃ g y : Nat, guessN (limb r 3) (limb r 2) (limb b 3) = (g : Int) ∧ g < 18446744073709551616 ∧ y ≤ 2 ∧ 0 < limb b 3 ∧
      IntKind.u64.wrap (limb r 3 - IntKind.u64.wrap (((b % M256 * g / M256 : Nat) : Int) + if join (X : Int) (limb r 0) (limb r 1) (limb r 2) % M256 < b % M256 * g % M256 then 1 else 0)) = ((digAt r (X : Int) b y / M256 % 18446744073709551616 : Nat) : Int) ∧
      (join (X : Int) (limb r 0) (limb r 1) (limb r 2) % M256 + M256 - b % M256 * g % M256) % M256 = digAt r (X : Int) b y % M256 ∧
      (∀ e, e ≤ 2 → e ≠ 0 → IntKind.u64.wrap (((digAt r (X : Int) b e / M256 % 18446744073709551616 : Nat) : Int) + ((digAt r (X : Int) b e % M256 + b % M256) / M256 : Nat)) = ((digAt r (X : Int) b (e - 1) / M256 % 18446744073709551616 : Nat) : Int) ∧ digAt r (X : Int) b e + b % M256 = digAt r (X : Int) b (e - 1) ∧ digAt r (X : Int) b e / M256 % 18446744073709551616 ≠ 0) ∧
      digAt r (X : Int) b 0 / M256 % 18446744073709551616 = 0 ∧ digAt r (X : Int) b 0 % M256 = digR r (X : Int) % (b % M256) := by
  obtain ⟨r0, h0, b0⟩ := limb_is r 0
  obtain ⟨r1, h1, b1⟩ := limb_is r 1
  obtain ⟨r2, h2, b2⟩ := limb_is r 2
  obtain ⟨r3, h3, b3⟩ := limb_is r 3
  obtain ⟨y0, k0, c0⟩ := limb_is b 0
  obtain ⟨y1, k1, c1⟩ := limb_is b 1
  obtain ⟨y2, k2, c2⟩ := limb_is b 2
  obtain ⟨y3, k3, c3⟩ := limb_is b 3
  have hA := horner_is r r0 r1 r2 r3 h0 h1 h2 h3
  have hB := horner_is b y0 y1 y2 y3 k0 k1 k2 k3
  have hBM : b % M256 < M256 := Nat.mod_lt _ (by rw [M256_eq]; decide)
  have hT : ∀ e, digAt r (X : Int) b e = M256 * 18446744073709551616 + digR r (X : Int) % (b % M256) - e * (b % M256) := fun e => rfl
  have hR : digR r (X : Int) = r % M256 * 18446744073709551616 + X := by unfold digR; rw [Int.toNat_natCast]
  have hJ : join (X : Int) (limb r 0) (limb r 1) (limb r 2) % M256 = ((r2 * 18446744073709551616 + r1) * 18446744073709551616 + r0) * 18446744073709551616 + X := by
    rw [h0, h1, h2, join_nat, M_val]
    omega
  rw [h0, h1, h2] at hJ
  rw [h0, h1, h2, h3, k3, guess_nat, hJ]
  rw [M_val] at hA hB hBM hT hR hrb hbt
  rw [M_val]
  generalize digR r (X : Int) = R at *
  rw [hA] at hR hrb
  obtain ⟨n1, n2, n3, n4, n5, n6, n7, n8⟩ := kn_all b0 b1 b2 c0 c1 c2 bX hB hR hrb hbt
  obtain ⟨x2, E2⟩ : ∃ v, v = b % 115792089237316195423570985008687907853269984665640564039457584007913129639936 := ⟨_, rfl⟩
  rw [← E2] at hB hBM hT hrb hbt n1 n5 ⊢
  obtain ⟨q1, q2, q3⟩ := knuth (W := 18446744073709551616) (K := 6277101735386680763835789423207666416102355444464034512896) (r3 := r3) (r2 := r2) (rr := (r1 * 18446744073709551616 + r0) * 18446744073709551616 + X) (b3 := y3) (bl := (y2 * 18446744073709551616 + y1) * 18446744073709551616 + y0) (B := x2) (R := R) (g := gN r3 r2 y3) n1 n2 n3 n4 n5 n6 b2 rfl
  generalize gN r3 r2 y3 = g at *
  have hBp : 0 < x2 := by clear hT; omega
  have dm := Nat.div_add_mod R x2
  have ml := Nat.mod_lt R hBp
  obtain ⟨x3, E3⟩ : ∃ v, v = R / x2 := ⟨_, rfl⟩
  rw [← E3] at dm q1 q2
  have D3 := Nat.div_add_mod (x2 * g) 115792089237316195423570985008687907853269984665640564039457584007913129639936
  have L3 := Nat.mod_lt (x2 * g) (show 0 < 115792089237316195423570985008687907853269984665640564039457584007913129639936 by decide)
  have H6 : x2 * g / 115792089237316195423570985008687907853269984665640564039457584007913129639936 < 18446744073709551616 := by
    rw [Nat.div_lt_iff_lt_mul (by decide), Nat.mul_comm 18446744073709551616]
    exact Nat.mul_lt_mul'' hBM q3
  have hG : x2 * g = x2 * x3 + (g - x3) * x2 := by
    rw [Nat.mul_comm (g - x3), ← Nat.mul_add]
    exact congrArg (x2 * ·) (by clear hT; omega)
  have hY : (g - x3) * x2 ≤ 2 * 115792089237316195423570985008687907853269984665640564039457584007913129639936 := Nat.mul_le_mul (by clear hT; omega) (Nat.le_of_lt hBM)
  obtain ⟨t1, t2⟩ := top_of (r3 := r3) (x6 := ((r2 * 18446744073709551616 + r1) * 18446744073709551616 + r0) * 18446744073709551616 + X) (x7 := x2 * g % 115792089237316195423570985008687907853269984665640564039457584007913129639936) (hi := x2 * g / 115792089237316195423570985008687907853269984665640564039457584007913129639936) (mrem := R % x2) (Y := (g - x3) * x2) (P := x2 * x3) (G := x2 * g) (by rw [dm, n7]) hG D3 L3 n8 H6 hY (Nat.lt_trans ml hBM) b3
  have step : ∀ e, e ≤ 2 → e ≠ 0 → IntKind.u64.wrap (((digAt r (X : Int) b e / 115792089237316195423570985008687907853269984665640564039457584007913129639936 % 18446744073709551616 : Nat) : Int) + ((digAt r (X : Int) b e % 115792089237316195423570985008687907853269984665640564039457584007913129639936 + x2) / 115792089237316195423570985008687907853269984665640564039457584007913129639936 : Nat)) = ((digAt r (X : Int) b (e - 1) / 115792089237316195423570985008687907853269984665640564039457584007913129639936 % 18446744073709551616 : Nat) : Int) ∧ digAt r (X : Int) b e + x2 = digAt r (X : Int) b (e - 1) ∧ digAt r (X : Int) b e / 115792089237316195423570985008687907853269984665640564039457584007913129639936 % 18446744073709551616 ≠ 0 := by
    intro e he h0
    have := top_step (mrem := R % x2) (B := x2) (e := e) ml hBM he h0
    rw [← hT, ← hT] at this
    exact this
  obtain ⟨u1, u2⟩ := top_zero (mrem := R % x2) (B := x2) ml hBM
  rw [← hT] at u1 u2 t1 t2
  have y3p : 0 < y3 := by clear hT; omega
  have g1 : g - x3 ≤ 2 := by clear hT; omega
  exact ⟨g, g - x3, rfl, q3, g1, Int.ofNat_lt.2 y3p, t1, t2, step, u1, u2⟩

theorem wrap_sub (a v : Int) : IntKind.u64.wrap (a - IntKind.u64.wrap v) = IntKind.u64.wrap (a - v) := by
  simp only [wrap_mod]
  omega
theorem carry_one {v x M : Nat} (hv : v < M) (hx : x < M) : (M ≤ v + x → (v + x) / M = 1) ∧ (¬ M ≤ v + x → (v + x) / M = 0) := by
  refine ⟨fun h => ?_, fun h => Nat.div_eq_of_lt (by omega)⟩
  rw [show v + x = (v + x - M) + M by omega, Nat.add_div_right _ (by omega), Nat.div_eq_of_lt (by omega)]
theorem ok_bring : ∀ (r : Nat) (x : Int) (b : Nat), Ok (digC r x b) → Owes Tryd.prog cxBring [(5, .inv (invBring r x b))] 100 Tryd.f61 [sU r, sI .u64 x, sU b] (bringG r x b) := by
  intro r x b hc
  obtain ⟨hx, hrb, hbt, _⟩ := hc
  rw [vc_bring]
  obtain ⟨X, rfl⟩ := Int.eq_ofNat_of_zero_le hx.1
  have bX : X < 18446744073709551616 := Int.ofNat_lt.1 hx.2
  have hM : 0 < M256 := by rw [M256_eq]; decide
  have hbM := Nat.mod_lt b hM
  obtain ⟨g, y, eg, gw, hy, hb3, t1, t2, step, u1, u2⟩ := dig_core r X b bX hrb hbt
  rw [eg]
  intro x1 x2 x3 x4 x5 x6
  have E1 : x1 = (g : Int) := rfl
  have T : x1.toNat = g := by rw [E1]; exact Int.toNat_natCast _
  have E4 : x4 = b % M256 * g := by simp only [x4, x3, T]
  have E6 : x6 = b % M256 * g % M256 := by simp only [x6, E4]
  rw [wrap_sub, ← E6, ← E4] at t1
  rw [← E6] at t2
  have hl := fun n i => (⟨limb_nonneg n i, limb_lt n i⟩ : (0 : Int) ≤ limb n i ∧ limb n i < 18446744073709551616)
  have hbB : ∀ v : Nat, (v + b) % M256 = (v + b % M256) % M256 := fun v => by rw [Nat.add_mod v b, Nat.add_mod v (b % M256), Nat.mod_mod]
  have hrem : digR r (X : Int) % (b % M256) < M256 := Nat.lt_trans (Nat.mod_lt _ (by omega)) hbM
  refine ⟨hl r 3, hl r 2, hl b 3, hb3, hx, hl r 0, hl r 1, hl r 2, by rw [E1]; exact word_nat gw, fun _ => rfl, y, hy, rfl, rfl, rfl, t1, t2, rfl, rfl, rfl, rfl, fun e he => ⟨fun c => ?_, fun c => ?_⟩⟩
  · have he0 : e ≠ 0 := by
      rintro rfl
      rw [u1] at c
      exact absurd c (by decide)
    obtain ⟨s1, s2, s3⟩ := step e he he0
    obtain ⟨k1, k2⟩ := carry_one (Nat.mod_lt (digAt r (X : Int) b e) hM) hbM
    have hs : (digAt r (X : Int) b e + b) % M256 = digAt r (X : Int) b (e - 1) % M256 := by rw [hbB, s2]
    refine ⟨fun h => ⟨e - 1, by omega, rfl, rfl, rfl, ?_, hs, rfl, rfl, rfl, rfl, by omega⟩, fun h => ⟨e - 1, by omega, rfl, rfl, rfl, ?_, hs, rfl, rfl, rfl, rfl, by omega⟩⟩
    · rw [k1 (of_decide_eq_true h)] at s1
      exact s1
    · rw [k2 (of_decide_eq_false h), Int.natCast_zero, Int.add_zero, wrap_id (word_nat (Nat.mod_lt _ (by decide)))] at s1
      exact s1
  · have he0 : e = 0 := by
      refine Classical.byContradiction fun h => ?_
      obtain ⟨s1, s2, s3⟩ := step e he h
      rw [bne_eq_false_iff_eq] at c
      exact s3 (Int.ofNat.inj c)
    subst he0
    exact ⟨by rw [u2, Nat.mod_eq_of_lt hrem], trivial⟩

theorem less_step (a P o : Int) (ha : 0 ≤ a ∧ a < 18446744073709551616) (hP : 0 ≤ P ∧ P ≤ 340282366920938463426481119284349108225) (ho : 0 ≤ o ∧ o < 18446744073709551616) :
    (0 ≤ IntKind.u64.wrap (IntKind.u64.wrap (P / 18446744073709551616 + (P % 18446744073709551616 + o + 0) / 18446744073709551616) + -((a - (P % 18446744073709551616 + o + 0) % 18446744073709551616 - 0) / 18446744073709551616)) ∧ IntKind.u64.wrap (IntKind.u64.wrap (P / 18446744073709551616 + (P % 18446744073709551616 + o + 0) / 18446744073709551616) + -((a - (P % 18446744073709551616 + o + 0) % 18446744073709551616 - 0) / 18446744073709551616)) < 18446744073709551616) ∧
    a + 18446744073709551616 * IntKind.u64.wrap (IntKind.u64.wrap (P / 18446744073709551616 + (P % 18446744073709551616 + o + 0) / 18446744073709551616) + -((a - (P % 18446744073709551616 + o + 0) % 18446744073709551616 - 0) / 18446744073709551616)) = (a - (P % 18446744073709551616 + o + 0) % 18446744073709551616 - 0) % 18446744073709551616 + P + o ∧
    (0 ≤ (a - (P % 18446744073709551616 + o + 0) % 18446744073709551616 - 0) % 18446744073709551616 ∧ (a - (P % 18446744073709551616 + o + 0) % 18446744073709551616 - 0) % 18446744073709551616 < 18446744073709551616) ∧ 0 ≤ P % 18446744073709551616 ∧ (0 ≤ (P % 18446744073709551616 + o + 0) % 18446744073709551616 ∧ (P % 18446744073709551616 + o + 0) % 18446744073709551616 < 18446744073709551616) := by
  simp only [wrap_mod]
  refine ⟨⟨?_, ?_⟩, ?_, ⟨?_, ?_⟩, ?_, ?_, ?_⟩ <;> omega
theorem prod_bound {b q : Int} (hb : 0 ≤ b ∧ b < 18446744073709551616) (hq : 0 ≤ q ∧ q < 18446744073709551616) : 0 ≤ b * q ∧ b * q ≤ 340282366920938463426481119284349108225 := by
  obtain ⟨b, rfl⟩ := Int.eq_ofNat_of_zero_le hb.1
  obtain ⟨q, rfl⟩ := Int.eq_ofNat_of_zero_le hq.1
  rw [← Int.natCast_mul]
  have := Nat.mul_le_mul (show b ≤ 18446744073709551615 by omega) (show q ≤ 18446744073709551615 by omega)
  omega
theorem less_sum {A G r0 r1 r2 r3 o hi lo : Nat} (h : A + 115792089237316195423570985008687907853269984665640564039457584007913129639936 * o = ((((r3 * 18446744073709551616 + r2) * 18446744073709551616 + r1) * 18446744073709551616 + r0) + G)) (hG : 115792089237316195423570985008687907853269984665640564039457584007913129639936 * hi + lo = G) (hlo : lo < 115792089237316195423570985008687907853269984665640564039457584007913129639936) (hA : A < 115792089237316195423570985008687907853269984665640564039457584007913129639936) (h0 : r0 < 18446744073709551616) (h1 : r1 < 18446744073709551616) (h2 : r2 < 18446744073709551616) (h3 : r3 < 18446744073709551616) :
    (((r3 * 18446744073709551616 + r2) * 18446744073709551616 + r1) * 18446744073709551616 + r0) % 115792089237316195423570985008687907853269984665640564039457584007913129639936 = (A + 115792089237316195423570985008687907853269984665640564039457584007913129639936 - lo) % 115792089237316195423570985008687907853269984665640564039457584007913129639936 ∧ (o : Int) = (hi : Int) + if A < lo then 1 else 0 := by
  split
  · refine ⟨?_, ?_⟩ <;> omega
  · refine ⟨?_, ?_⟩ <;> omega
theorem ok_fless : ∀ (a : Nat) (q : Int) (b : Nat), Ok (flessC a q b) → Owes Tryd.prog cxFless [] 100 Tryd.f72 [sU a, sI .u64 q, sU b] (flessG a q b) := by
  intro a q b hc
  obtain ⟨hq, _⟩ := hc
  rw [vc_fless]
  have hl := fun n i => (⟨limb_nonneg n i, limb_lt n i⟩ : (0 : Int) ≤ limb n i ∧ limb n i < 18446744073709551616)
  have z : (0 : Int) ≤ 0 ∧ (0 : Int) < 18446744073709551616 := by decide
  have z1 : (0 : Int) ≤ 0 ∧ (0 : Int) ≤ 1 := by decide
  obtain ⟨o0, s0, r0, p0, l0⟩ := less_step (limb a 0) (limb b 0 * q) 0 (hl a 0) (prod_bound (hl b 0) hq) z
  intro x1 x2 x3 x4 x5 x6 x7 x8
  have O0 : 0 ≤ x8 ∧ x8 < 18446744073709551616 := o0
  have S0 : limb a 0 + 18446744073709551616 * x8 = x7 % 18446744073709551616 + x1 + 0 := s0
  have R0 : 0 ≤ x7 % 18446744073709551616 ∧ x7 % 18446744073709551616 < 18446744073709551616 := r0
  have L0 : 0 ≤ x4 ∧ x4 < 18446744073709551616 := l0
  obtain ⟨o1, s1, r1, p1, l1⟩ := less_step (limb a 1) (limb b 1 * q) x8 (hl a 1) (prod_bound (hl b 1) hq) O0
  intro x9 x10 x11 x12 x13 x14
  have O1 : 0 ≤ x14 ∧ x14 < 18446744073709551616 := o1
  have S1 : limb a 1 + 18446744073709551616 * x14 = x13 % 18446744073709551616 + x5 + x8 := s1
  have R1 : 0 ≤ x13 % 18446744073709551616 ∧ x13 % 18446744073709551616 < 18446744073709551616 := r1
  have L1 : 0 ≤ x10 ∧ x10 < 18446744073709551616 := l1
  obtain ⟨o2, s2, r2, p2, l2⟩ := less_step (limb a 2) (limb b 2 * q) x14 (hl a 2) (prod_bound (hl b 2) hq) O1
  intro x15 x16 x17 x18 x19 x20
  have O2 : 0 ≤ x20 ∧ x20 < 18446744073709551616 := o2
  have S2 : limb a 2 + 18446744073709551616 * x20 = x19 % 18446744073709551616 + x11 + x14 := s2
  have R2 : 0 ≤ x19 % 18446744073709551616 ∧ x19 % 18446744073709551616 < 18446744073709551616 := r2
  have L2 : 0 ≤ x16 ∧ x16 < 18446744073709551616 := l2
  obtain ⟨o3, s3, r3, p3, l3⟩ := less_step (limb a 3) (limb b 3 * q) x20 (hl a 3) (prod_bound (hl b 3) hq) O2
  intro x21 x22 x23 x24 x25 x26 x27 x28 x29 x30
  have L3 : 0 ≤ x22 ∧ x22 < 18446744073709551616 := l3
  have R3 : 0 ≤ x27 ∧ x27 < 18446744073709551616 := r3
  have S3 : limb a 3 + 18446744073709551616 * IntKind.u64.wrap (IntKind.u64.wrap (x17 / 18446744073709551616 + x21 / 18446744073709551616) + -(x26 / 18446744073709551616)) = x27 + x17 + x20 := s3
  have O3 : 0 ≤ IntKind.u64.wrap (IntKind.u64.wrap (x17 / 18446744073709551616 + x21 / 18446744073709551616) + -(x26 / 18446744073709551616)) ∧ IntKind.u64.wrap (IntKind.u64.wrap (x17 / 18446744073709551616 + x21 / 18446744073709551616) + -(x26 / 18446744073709551616)) < 18446744073709551616 := o3
  have R0' : 0 ≤ x23 ∧ x23 < 18446744073709551616 := R0
  have R1' : 0 ≤ x24 ∧ x24 < 18446744073709551616 := R1
  have R2' : 0 ≤ x25 ∧ x25 < 18446744073709551616 := R2
  have S0' : limb a 0 + 18446744073709551616 * x8 = x23 + x1 + 0 := S0
  have S1' : limb a 1 + 18446744073709551616 * x14 = x24 + x5 + x8 := S1
  have S2' : limb a 2 + 18446744073709551616 * x20 = x25 + x11 + x14 := S2
  clear o0 s0 r0 l0 o1 s1 r1 l1 o2 s2 r2 l2 o3 s3 r3 l3 R0 R1 R2 S0 S1 S2
  have M : (join x23 x24 x25 x27 % M256 = (x28 + M256 - x30) % M256) ∧ IntKind.u64.wrap (IntKind.u64.wrap (x17 / 18446744073709551616 + x21 / 18446744073709551616) + -(x26 / 18446744073709551616)) = ((x29 / M256 : Nat) : Int) + if x28 < x30 then (1 : Int) else (0 : Int) := by
    have e1 : x1 = limb b 0 * q := rfl
    have e5 : x5 = limb b 1 * q := rfl
    have e11 : x11 = limb b 2 * q := rfl
    have e17 : x17 = limb b 3 * q := rfl
    have e28 : x28 = a % M256 := rfl
    have e29 : x29 = b % M256 * q.toNat := rfl
    have e30 : x30 = x29 % M256 := rfl
    generalize IntKind.u64.wrap (IntKind.u64.wrap (x17 / 18446744073709551616 + x21 / 18446744073709551616) + -(x26 / 18446744073709551616)) = o at *
    clear_value x1 x5 x8 x11 x14 x17 x20 x23 x24 x25 x27 x28 x29 x30
    obtain ⟨Q, rfl⟩ := Int.eq_ofNat_of_zero_le hq.1
    obtain ⟨w0, rfl⟩ := Int.eq_ofNat_of_zero_le R0'.1
    obtain ⟨w1, rfl⟩ := Int.eq_ofNat_of_zero_le R1'.1
    obtain ⟨w2, rfl⟩ := Int.eq_ofNat_of_zero_le R2'.1
    obtain ⟨w3, rfl⟩ := Int.eq_ofNat_of_zero_le R3.1
    obtain ⟨ov, rfl⟩ := Int.eq_ofNat_of_zero_le O3.1
    obtain ⟨a0, h0, b0⟩ := limb_is a 0
    obtain ⟨a1, h1, b1⟩ := limb_is a 1
    obtain ⟨a2, h2, b2⟩ := limb_is a 2
    obtain ⟨a3, h3, b3⟩ := limb_is a 3
    obtain ⟨y0, k0, c0⟩ := limb_is b 0
    obtain ⟨y1, k1, c1⟩ := limb_is b 1
    obtain ⟨y2, k2, c2⟩ := limb_is b 2
    obtain ⟨y3, k3, c3⟩ := limb_is b 3
    have hA := horner_is a a0 a1 a2 a3 h0 h1 h2 h3
    have hB := horner_is b y0 y1 y2 y3 k0 k1 k2 k3
    rw [Int.toNat_natCast, hB] at e29
    have e29' : x29 = ((y3 * Q * 18446744073709551616 + y2 * Q) * 18446744073709551616 + y1 * Q) * 18446744073709551616 + y0 * Q := by
      have k1 : ∀ X Y : Nat, (X * 18446744073709551616 + Y) * Q = X * Q * 18446744073709551616 + Y * Q := fun X Y => by rw [Nat.add_mul, Nat.mul_right_comm]
      rw [e29, k1, k1, k1]
    rw [h0] at S0'
    rw [h1] at S1'
    rw [h2] at S2'
    rw [h3] at S3
    rw [k0, ← Int.natCast_mul] at e1
    rw [k1, ← Int.natCast_mul] at e5
    rw [k2, ← Int.natCast_mul] at e11
    rw [k3, ← Int.natCast_mul] at e17
    have hMl : x29 % M256 < M256 := Nat.mod_lt _ (by rw [M256_eq]; decide)
    have hMd := Nat.div_add_mod x29 M256
    have hAl : x28 < M256 := by rw [e28]; exact Nat.mod_lt _ (by rw [M256_eq]; decide)
    rw [hA] at e28
    rw [← e30] at hMl hMd
    rw [join_nat]
    rw [M_val] at hMl hMd hAl ⊢
    refine less_sum ?_ hMd hMl hAl (Int.ofNat_lt.1 R0'.2) (Int.ofNat_lt.1 R1'.2) (Int.ofNat_lt.1 R2'.2) (Int.ofNat_lt.1 R3.2)
    rw [e28, e29']
    clear e28 e29 e29' e30 hMl hMd hAl hA hB hl O0 O1 O2 O3 L0 L1 L2 L3 p0 p1 p2 p3 R0' R1' R2' R3
    generalize y0 * Q = t0 at *
    generalize y1 * Q = t1 at *
    generalize y2 * Q = t2 at *
    generalize y3 * Q = t3 at *
    exact Nat.le_antisymm (by omega) (by omega)
  exact ⟨hl b 0, hq, p0, z.1, z1, hl a 0, L0, z1, hl b 1, hq, p1, O0.1, z1, hl a 1, L1, z1, hl b 2, hq, p2, O1.1, z1, hl a 2, L2, z1, hl b 3, hq, p3, O2.1, z1, hl a 3, L3, z1, ⟨R0', R1', R2', R3, M.1, trivial⟩, M.2⟩
theorem card_fless : FnOK Tryd.prog 72 (specUWU flessC flessG) :=
  FnOK_UWU (CxOK_cons card_Mul64 (CxOK_cons card_Add64 (CxOK_cons card_Sub64 CxOK_nil))) (iv := fun _ _ _ => []) (N := 100) Tryd.func72 (by kernel_rfl) (by kernel_rfl) (fun _ _ _ => bnd_two (bnd_U _) (bnd_I _ _)) ok_fless
theorem card_bring : FnOK Tryd.prog 61 (specUWU digC bringG) :=
  FnOK_UWU (CxOK_cons card_fguess (CxOK_cons card_fless (CxOK_cons card_Add CxOK_nil))) (iv := fun r x b => [(5, .inv (invBring r x b))]) (N := 100) Tryd.func61 (by kernel_rfl) (by kernel_rfl) (fun _ _ _ => bnd_one (bnd_U _)) ok_bring
theorem card_rest : FnOK Tryd.prog 53 (specUUU restC restG) :=
  FnOK_UUU (CxOK_cons card_Mul (CxOK_cons card_bring CxOK_nil)) (iv := fun _ _ _ => []) (N := 100) Tryd.func53 (by kernel_rfl) (by kernel_rfl) (fun _ _ _ => bnd_one (bnd_U _)) ok_rest

theorem ok_bit : ∀ n : Int, Ok (bitC n) → Owes Tryd.prog Cx.none [] 100 Tryd.f55 [sI .i64 n] (bitG n) := by
  intro n hc
  obtain ⟨hn, _⟩ := hc
  rw [vc_bit]
  obtain ⟨p, t, hnp, ht, hp, y1, y2, y3, y4⟩ := n_parts (n := n) ⟨hn.1, by omega⟩
  have hp3 : p ≤ 3 := by omega
  have ht63 : 2 ^ t < 18446744073709551616 := Nat.lt_of_le_of_lt (Nat.pow_le_pow_right (by decide) ht) (by decide)
  intro x1 x2 x3 x4 x5 x6 x7
  have E1 : x1 = (p : Int) := y1
  have E2 : x2 = p := by simp only [x2, E1]; exact Int.toNat_natCast _
  have E3 : x3 = ((2 ^ t : Nat) : Int) := by
    simp only [x3, y2]
    rw [two_min t (by omega), Int.one_mul]
    exact wrap_id (word_nat ht63)
  have w := word_nat ht63
  rw [y2, hnp, Int.toNat_natCast, two_split]
  have hE : ∀ i : Nat, (if i = x2 then x3 else (0 : Int)) = ((if i = p then 2 ^ t else 0 : Nat) : Int) := fun i => by
    rw [E2, E3]
    split <;> rfl
  have hb : ∀ i : Nat, (0 : Int) ≤ ((if i = p then 2 ^ t else 0 : Nat) : Int) ∧ ((if i = p then 2 ^ t else 0 : Nat) : Int) < 18446744073709551616 := fun i => word_nat (by split; exact ht63; decide)
  have E4 : x4 = ((if 0 = p then 2 ^ t else 0 : Nat) : Int) := hE 0
  have E5 : x5 = ((if 1 = p then 2 ^ t else 0 : Nat) : Int) := hE 1
  have E6 : x6 = ((if 2 = p then 2 ^ t else 0 : Nat) : Int) := hE 2
  have E7 : x7 = ((if 3 = p then 2 ^ t else 0 : Nat) : Int) := hE 3
  rw [E4, E5, E6, E7, E1, join_nat]
  refine ⟨nn _, ⟨nn _, by omega⟩, ⟨nn _, by omega⟩, hb 0, hb 1, hb 2, hb 3, ?_, trivial⟩
  refine congrArg (· % M256) ?_
  generalize 2 ^ t = d at *
  rcases (show p = 0 ∨ p = 1 ∨ p = 2 ∨ p = 3 by omega) with rfl | rfl | rfl | rfl
  · simp
  · simp
  · simp [Nat.mul_assoc]
  · simp [Nat.mul_assoc]
theorem card_bit : FnOK Tryd.prog 55 (specI bitC bitG) :=
  FnOK_I CxOK_nil (iv := fun _ => []) (N := 100) Tryd.func55 (by kernel_rfl) (by kernel_rfl) (fun _ => bnd_one (bnd_U _)) ok_bit

theorem prod_moved {a b m D E M : Nat} (hDE : D * E = M) (hM0 : 0 < M) (hEM : E < M) (hm : 0 < m) (hmD : m * D < M) : a * (b * D) % (m * D) % M * (E % M) / M % M = a * b % m % M := by
  have h1 : a * (b * D) % (m * D) = a * b % m * D := by rw [← Nat.mul_assoc, Nat.mul_mod_mul_right]
  have hr := Nat.mod_lt (a * b) hm
  have h2 : a * b % m * D < M := Nat.lt_of_le_of_lt (Nat.mul_le_mul_right D (Nat.le_of_lt hr)) hmD
  rw [h1, Nat.mod_eq_of_lt h2, Nat.mod_eq_of_lt hEM, Nat.mul_assoc, hDE, Nat.mul_div_cancel _ hM0]
theorem ok_product : ∀ a b m : Nat, Ok (prodC a b m) → Owes Tryd.prog cxProd [] 100 Tryd.f44 [sU a, sU b, sU m] (prodG a b m) := by
  intro a b m hc
  obtain ⟨ha, hb, _⟩ := hc
  rw [vc_product]
  have hMp : 0 < M256 := by rw [M256_eq]; decide
  have hM := Nat.mod_lt m hMp
  have hm0 : 0 < m % M256 := by omega
  have hl := bitsN_le (n := m % M256) (k := 256) hM
  obtain ⟨hb1, hb2⟩ := bitsN_two (m % M256) (by omega)
  have hl0 : 1 ≤ bitsN (m % M256) := by
    refine Nat.pos_of_ne_zero fun e => ?_
    rw [e] at hb1
    omega
  obtain ⟨s, hs⟩ : ∃ s, s = 256 - bitsN (m % M256) := ⟨_, rfl⟩
  have hs' : bitsN (m % M256) = 256 - s := by omega
  have hs2 : s ≤ 255 := by omega
  have hDE : 2 ^ s * 2 ^ (256 - s) = M256 := by rw [← Nat.pow_add, show s + (256 - s) = 256 by omega]; rfl
  have hD := Nat.two_pow_pos s
  rw [hs'] at hb1 hb2
  have hYM : m % M256 * 2 ^ s < M256 := Nat.lt_of_lt_of_eq (Nat.mul_lt_mul_of_pos_right hb1 hD) (by rw [Nat.mul_comm, hDE])
  have hYt : M256 ≤ 2 * (m % M256 * 2 ^ s) := by
    have := Nat.mul_le_mul_right (2 ^ s) hb2
    rw [Nat.mul_comm (2 ^ (256 - s)), hDE, Nat.mul_assoc] at this
    exact this
  intro x1 x2 x3 x4 x5 x6 x7 x8 x9
  have E1 : x1 = m % M256 := rfl
  have E2 : x2 = (s : Int) := by simp only [x2, x1, ← hs]
  have E3 : x3 = a % M256 := rfl
  have E4 : x4 = b % M256 := rfl
  have E5 : x5 = x3 * x4 % x1 % M256 := rfl
  have E6 : x6 = 2 ^ s := by simp only [x6, E2, Int.toNat_natCast]
  have E7 : x7 = m % M256 * 2 ^ s := by simp only [x7, E6]; exact (mod_mul_M m _).trans (Nat.mod_eq_of_lt hYM)
  have hbD : b % M256 * 2 ^ s < m % M256 * 2 ^ s := Nat.mul_lt_mul_of_pos_right hb hD
  have E8 : x8 = b % M256 * 2 ^ s := by simp only [x8, E6]; exact (mod_mul_M b _).trans (Nat.mod_eq_of_lt (Nat.lt_trans hbD hYM))
  have E9 : x9 = ((256 - s : Nat) : Int) := by
    simp only [x9, E2]
    rw [IntWalk.i64_in _ (by omega)]
    omega
  clear_value x9 x8 x7 x6 x5 x4 x3 x2 x1
  refine ⟨fun h => ?_, fun h => ?_⟩
  · have h0 : s = 0 := by
      have h := beq_iff_eq.1 h
      omega
    rw [h0, Nat.pow_zero, Nat.mul_one] at hYt
    exact ⟨by rw [E3, E1]; exact ha, by rw [E4, E1]; exact hb, by rw [E1]; exact hYt, rfl, trivial⟩
  · have h0 : 1 ≤ s := by
      have h := beq_eq_false_iff_ne.1 h
      omega
    have hEM : 2 ^ (256 - s) < M256 := by
      rw [M_pow]
      exact Nat.pow_lt_pow_right (by decide) (by omega)
    refine ⟨by rw [E2]; omega, by rw [E2]; omega, ?_, by rw [E8, E7]; exact hbD, by rw [E7]; exact hYt, by rw [E9]; omega, ?_, trivial⟩
    · rw [E3, E7]
      exact Nat.lt_of_lt_of_le ha (Nat.le_mul_of_pos_right _ hD)
    · rw [E9, Int.toNat_natCast, E8, E7, E5, E3, E4, E1]
      exact prod_moved hDE hMp hEM hm0 hYM
theorem card_product : FnOK Tryd.prog 44 (specUUU prodC prodG) :=
  FnOK_UUU (CxOK_cons card_fnoughts (CxOK_cons card_rest (CxOK_cons card_bit (CxOK_cons card_Mul CxOK_nil)))) (iv := fun _ _ _ => []) (N := 100) Tryd.func44 (by kernel_rfl) (by kernel_rfl) (fun _ _ _ => bnd_one (bnd_U _)) ok_product
end Go.Proofs.YtbfcccoeekonlaaDoor
end

section
/-
  Package field's calls; turned round.
-/
namespace Go.Proofs.YtbfcccoeekonlaaDoor
open Go.Sx

theorem cmp_ge {a m : Nat} : cmpN a m ≥ 0 ↔ m % M256 ≤ a % M256 := by
  unfold cmpN
  rcases Nat.lt_or_ge (a % M256) (m % M256) with c | c
  · rw [if_pos c]; omega
  · rw [if_neg (by omega)]
    refine ⟨fun _ => c, fun _ => ?_⟩
    split <;> decide
theorem f_all {a b m r : Nat} :
    (m % M256 = 0 → 0 = (if fE a b m = 0 then r else 0) % M256 ∧ 7 = fE a b m) ∧
    (m % M256 ≠ 0 → (m % M256 ≤ a % M256 ∨ m % M256 ≤ b % M256) → 0 = (if fE a b m = 0 then r else 0) % M256 ∧ 6 = fE a b m) ∧
    (m % M256 ≠ 0 → a % M256 < m % M256 → b % M256 < m % M256 → r % M256 = (if fE a b m = 0 then r else 0) % M256 ∧ 0 = fE a b m) := by
  refine ⟨fun h => ?_, fun h h' => ?_, fun h h1 h2 => ?_⟩
  · have e : fE a b m = 7 := by unfold fE; rw [if_pos h]
    rw [e, if_neg (by decide)]
    exact ⟨(Nat.zero_mod _).symm, rfl⟩
  · have e : fE a b m = 6 := by unfold fE; rw [if_neg h, if_neg (by omega)]
    rw [e, if_neg (by decide)]
    exact ⟨(Nat.zero_mod _).symm, rfl⟩
  · have e : fE a b m = 0 := by unfold fE; rw [if_neg h, if_pos ⟨h1, h2⟩]
    rw [e, if_pos rfl]
    exact ⟨rfl, rfl⟩
theorem ok_fAdd : ∀ a b m : Nat, Ok (noC a b m) → Owes Tryd.prog cxFadd [] 100 Tryd.f39 [sU a, sU b, sU m] (faddG a b m) := by
  intro a b m _
  rw [vc_fAdd]
  intro x1 x2 x3 x4 x5
  obtain ⟨f1, f2, f3⟩ := f_all (a := a) (b := b) (m := m) (r := (a % M256 + b % M256) % (m % M256))
  refine ⟨fun h => ?_, fun h => ⟨fun h1 => ?_, fun h1 => ⟨fun h2 => ?_, fun h2 => ?_⟩⟩⟩
  · obtain ⟨p, q⟩ := f1 (beq_iff_eq.1 h)
    exact ⟨⟨p, trivial⟩, q⟩
  · obtain ⟨p, q⟩ := f2 (beq_eq_false_iff_ne.1 h) (.inl (cmp_ge.1 (of_decide_eq_true h1)))
    exact ⟨⟨p, trivial⟩, q⟩
  · obtain ⟨p, q⟩ := f2 (beq_eq_false_iff_ne.1 h) (.inr (cmp_ge.1 (of_decide_eq_true h2)))
    exact ⟨⟨p, trivial⟩, q⟩
  · have l1 : a % M256 < m % M256 := Nat.lt_of_not_le fun c => of_decide_eq_false h1 (cmp_ge.2 c)
    have l2 : b % M256 < m % M256 := Nat.lt_of_not_le fun c => of_decide_eq_false h2 (cmp_ge.2 c)
    obtain ⟨p, q⟩ := f3 (beq_eq_false_iff_ne.1 h) l1 l2
    exact ⟨l1, l2, ⟨p, trivial⟩, q⟩
theorem card_fAdd : FnOK Tryd.prog 39 (specUUU noC faddG) :=
  FnOK_UUU (CxOK_cons card_Cmp (CxOK_cons card_sum CxOK_nil)) (iv := fun _ _ _ => []) (N := 100) Tryd.func39 (by kernel_rfl) (by kernel_rfl) (fun _ _ _ => bnd_two (bnd_U _) (bnd_I _ _)) ok_fAdd
theorem ok_fSub : ∀ a b m : Nat, Ok (noC a b m) → Owes Tryd.prog cxFsub [] 100 Tryd.f41 [sU a, sU b, sU m] (fsubG a b m) := by
  intro a b m _
  rw [vc_fSub]
  intro x1 x2 x3 x4 x5
  obtain ⟨f1, f2, f3⟩ := f_all (a := a) (b := b) (m := m) (r := (a % M256 + m % M256 - b % M256) % (m % M256))
  refine ⟨fun h => ?_, fun h => ⟨fun h1 => ?_, fun h1 => ⟨fun h2 => ?_, fun h2 => ?_⟩⟩⟩
  · obtain ⟨p, q⟩ := f1 (beq_iff_eq.1 h)
    exact ⟨⟨p, trivial⟩, q⟩
  · obtain ⟨p, q⟩ := f2 (beq_eq_false_iff_ne.1 h) (.inl (cmp_ge.1 (of_decide_eq_true h1)))
    exact ⟨⟨p, trivial⟩, q⟩
  · obtain ⟨p, q⟩ := f2 (beq_eq_false_iff_ne.1 h) (.inr (cmp_ge.1 (of_decide_eq_true h2)))
    exact ⟨⟨p, trivial⟩, q⟩
  · have l1 : a % M256 < m % M256 := Nat.lt_of_not_le fun c => of_decide_eq_false h1 (cmp_ge.2 c)
    have l2 : b % M256 < m % M256 := Nat.lt_of_not_le fun c => of_decide_eq_false h2 (cmp_ge.2 c)
    obtain ⟨p, q⟩ := f3 (beq_eq_false_iff_ne.1 h) l1 l2
    exact ⟨l1, l2, ⟨p, trivial⟩, q⟩
theorem card_fSub : FnOK Tryd.prog 41 (specUUU noC fsubG) :=
  FnOK_UUU (CxOK_cons card_Cmp (CxOK_cons card_difference CxOK_nil)) (iv := fun _ _ _ => []) (N := 100) Tryd.func41 (by kernel_rfl) (by kernel_rfl) (fun _ _ _ => bnd_two (bnd_U _) (bnd_I _ _)) ok_fSub
theorem ok_fMul : ∀ a b m : Nat, Ok (noC a b m) → Owes Tryd.prog cxFmul [] 100 Tryd.f38 [sU a, sU b, sU m] (fmulG a b m) := by
  intro a b m _
  rw [vc_fMul]
  intro x1 x2 x3 x4 x5
  obtain ⟨f1, f2, f3⟩ := f_all (a := a) (b := b) (m := m) (r := a % M256 * (b % M256) % (m % M256))
  refine ⟨fun h => ?_, fun h => ⟨fun h1 => ?_, fun h1 => ⟨fun h2 => ?_, fun h2 => ?_⟩⟩⟩
  · obtain ⟨p, q⟩ := f1 (beq_iff_eq.1 h)
    exact ⟨⟨p, trivial⟩, q⟩
  · obtain ⟨p, q⟩ := f2 (beq_eq_false_iff_ne.1 h) (.inl (cmp_ge.1 (of_decide_eq_true h1)))
    exact ⟨⟨p, trivial⟩, q⟩
  · obtain ⟨p, q⟩ := f2 (beq_eq_false_iff_ne.1 h) (.inr (cmp_ge.1 (of_decide_eq_true h2)))
    exact ⟨⟨p, trivial⟩, q⟩
  · have l1 : a % M256 < m % M256 := Nat.lt_of_not_le fun c => of_decide_eq_false h1 (cmp_ge.2 c)
    have l2 : b % M256 < m % M256 := Nat.lt_of_not_le fun c => of_decide_eq_false h2 (cmp_ge.2 c)
    obtain ⟨p, q⟩ := f3 (beq_eq_false_iff_ne.1 h) l1 l2
    exact ⟨l1, l2, ⟨p, trivial⟩, q⟩
theorem card_fMul : FnOK Tryd.prog 38 (specUUU noC fmulG) :=
  FnOK_UUU (CxOK_cons card_Cmp (CxOK_cons card_product CxOK_nil)) (iv := fun _ _ _ => []) (N := 100) Tryd.func38 (by kernel_rfl) (by kernel_rfl) (fun _ _ _ => bnd_two (bnd_U _) (bnd_I _ _)) ok_fMul
/-! ## The laws -/
end Go.Proofs.YtbfcccoeekonlaaDoor
end

section
/-
  Package field: powers.
-/
namespace Go.Proofs.YtbfcccoeekonlaaDoor
open Go.Sx

theorem and_one (v : Nat) (h : v < 18446744073709551616) : IntKind.u64.wrap ((BitVec.ofInt 64 (v : Int) &&& BitVec.ofInt 64 (1 : Int)).toNat : Int) = ((v % 2 : Nat) : Int) := by
  have b1 : (BitVec.ofInt 64 (v : Int)).toNat = v := by rw [BitVec.toNat_ofInt]; omega
  have b2 : (BitVec.ofInt 64 (1 : Int)).toNat = 1 := by decide
  rw [BitVec.toNat_and, b1, b2, Nat.and_one_is_mod, wrap_id (word_nat (by omega))]
theorem limb_bit (x j : Nat) (hj : j < 256) : (IntKind.u64.wrap ((BitVec.ofInt 64 ((limb x (j / 64)).fdiv ((2 ^ (j % 64) : Nat) : Int)) &&& BitVec.ofInt 64 (1 : Int)).toNat : Int) == 1) = (x % M256).testBit j := by
  have e : limb x (j / 64) = ((x / 2 ^ (64 * (j / 64)) % 2 ^ 64 : Nat) : Int) := rfl
  have hc : x / 2 ^ (64 * (j / 64)) % 2 ^ 64 < 18446744073709551616 := Nat.mod_lt _ (by decide)
  rw [e, fdiv_nat, and_one _ (Nat.lt_of_le_of_lt (Nat.div_le_self _ _) hc)]
  have h1 : (x / 2 ^ (64 * (j / 64)) % 2 ^ 64).testBit (j % 64) = (x % M256).testBit j := by
    rw [Nat.testBit_mod_two_pow, M_pow, Nat.testBit_mod_two_pow, Nat.testBit_div_two_pow]
    rw [decide_eq_true (Nat.mod_lt j (show 0 < 64 by decide)), decide_eq_true hj, Nat.mod_add_div]
  rw [← h1, Nat.testBit_eq_decide_div_mod_eq, Bool.eq_iff_iff, beq_iff_eq, decide_eq_true_eq]
  generalize x / 2 ^ (64 * (j / 64)) % 2 ^ 64 / 2 ^ (j % 64) = w
  omega
end Go.Proofs.YtbfcccoeekonlaaDoor
end

section
/-
  Package field: inverses: a number with a sign, the highest bits, turns.
-/
namespace Go.Proofs.YtbfcccoeekonlaaDoor
open Go.Sx

theorem wrN_nonneg {z : Int} (h0 : 0 ≤ z) (h : z < 2 ^ 256) : wrN z = z.toNat := by
  unfold wrN
  rw [Int.emod_eq_of_lt h0 (by rw [M256_eq]; exact h)]
theorem wrN_neg {z : Int} (h0 : z < 0) (h : -(2 ^ 256) ≤ z) : wrN z = (z + 2 ^ 256).toNat := by
  unfold wrN
  have e : z % (M256 : Int) = z + 2 ^ 256 := by
    rw [M256_eq, ← Int.add_emod_right]
    exact Int.emod_eq_of_lt (by omega) (by omega)
  rw [e]
theorem wrN_lt (z : Int) : wrN z < M256 := by
  unfold wrN
  have h1 := Int.emod_nonneg z (show (M256 : Int) ≠ 0 by rw [M256_eq]; decide)
  have h2 := Int.emod_lt_of_pos z (show 0 < (M256 : Int) by rw [M256_eq]; decide)
  omega
theorem wrN_cast (z : Int) : ((wrN z : Nat) : Int) = z % (M256 : Int) := by
  unfold wrN
  exact Int.toNat_of_nonneg (Int.emod_nonneg z (by rw [M256_eq]; decide))
theorem ok_signed : ∀ z : Int, Ok (signedC z) → Owes Tryd.prog Cx.none [] 100 Tryd.f75 [sI .i64 z] (signedG z) := by
  intro z hc
  obtain ⟨hz, _⟩ := hc
  rw [vc_signed]
  have hz' : -9223372036854775808 ≤ z ∧ z ≤ 9223372036854775807 := hz
  intro x1
  have E : x1 = if z < 0 then 18446744073709551615 else 0 := by
    simp only [x1]
    rw [wrap_mod, Int.fdiv_eq_ediv_of_nonneg _ (by decide)]
    split <;> omega
  have W : IntKind.u64.wrap z = if z < 0 then z + 18446744073709551616 else z := by
    rw [wrap_mod]
    split <;> omega
  clear_value x1
  rw [W, E]
  by_cases h : z < 0
  · simp only [if_pos h]
    refine ⟨by omega, by omega, by omega, by omega, congrArg (· % M256) ?_, trivial⟩
    rw [wrN_neg h (by omega)]
    unfold join
    omega
  · simp only [if_neg h]
    refine ⟨by omega, by omega, by omega, by omega, congrArg (· % M256) ?_, trivial⟩
    rw [wrN_nonneg (by omega) (by omega)]
    unfold join
    omega
theorem card_signed : FnOK Tryd.prog 75 (specI signedC signedG) :=
  FnOK_I CxOK_nil (iv := fun _ => []) (N := 100) Tryd.func75 (by kernel_rfl) (by kernel_rfl) (fun _ => bnd_one (bnd_U _)) ok_signed

theorem limb_mod (a i : Nat) (hi : i ≤ 3) : a / 2 ^ (64 * i) % 2 ^ 64 = a % M256 / 2 ^ (64 * i) % 2 ^ 64 := by
  have e : M256 = 2 ^ (64 * i) * 2 ^ (256 - 64 * i) := by rw [← Nat.pow_add, M_pow, show 64 * i + (256 - 64 * i) = 256 by omega]
  rw [e, Nat.mod_mul_right_div_self, Nat.mod_mod_of_dvd _ (Nat.pow_dvd_pow 2 (by omega))]
theorem high_word {A k t p : Nat} (ht : t ≤ 63) (hp : p + k = 2) (hA : A * 2 ^ (64 * p + t) < 2 ^ 256) :
    (A / 2 ^ (64 * (k + 1)) % 2 ^ 64 % 2 ^ (64 - t) * 2 ^ t + A / 2 ^ (64 * k) % 2 ^ 64 / 2 ^ (64 - t)) / 4 = A * 2 ^ (64 * p + t) / 2 ^ 194 := by
  have hW : 2 ^ t * 2 ^ (64 - t) = 2 ^ 64 := W_two t (by omega)
  have e1 : A / 2 ^ (64 * (k + 1)) = A / 2 ^ (64 * k) / 2 ^ 64 := by rw [Nat.mul_add, Nat.pow_add, ← Nat.div_div_eq_div_mul]
  have hlt : A / 2 ^ (64 * (k + 1)) < 2 ^ (64 - t) := by
    refine Nat.div_lt_of_lt_mul ?_
    refine Nat.lt_of_mul_lt_mul_right (a := 2 ^ (64 * p + t)) ?_
    rw [← Nat.pow_add, ← Nat.pow_add, show 64 * (k + 1) + (64 - t) + (64 * p + t) = 256 by omega]
    exact hA
  have hE : 2 ^ (64 - t) ≤ 2 ^ 64 := Nat.pow_le_pow_right (by decide) (by omega)
  rw [Nat.mod_eq_of_lt (Nat.lt_of_lt_of_le hlt hE), Nat.mod_eq_of_lt hlt, e1]
  have hs : A / 2 ^ (64 * k) / 2 ^ 64 * 2 ^ t + A / 2 ^ (64 * k) % 2 ^ 64 / 2 ^ (64 - t) = A / 2 ^ (64 * k) / 2 ^ (64 - t) := by
    generalize A / 2 ^ (64 * k) = B
    conv => rhs; rw [← Nat.div_add_mod B (2 ^ 64), ← hW, Nat.mul_comm (2 ^ t), Nat.mul_assoc, Nat.mul_add_div (Nat.two_pow_pos _)]
    rw [Nat.mul_comm (2 ^ (64 - t)) (2 ^ t), hW, Nat.mul_comm]
  rw [hs, Nat.div_div_eq_div_mul, Nat.div_div_eq_div_mul]
  have e2 : (2 : Nat) ^ 194 = 2 ^ (64 * k) * 2 ^ (64 - t) * 4 * 2 ^ (64 * p + t) := by
    rw [show (4 : Nat) = 2 ^ 2 from rfl, ← Nat.pow_add, ← Nat.pow_add, ← Nat.pow_add, show 64 * k + (64 - t) + 2 + (64 * p + t) = 194 by omega]
  rw [e2, Nat.mul_div_mul_right _ _ (Nat.two_pow_pos _), Nat.mul_assoc]
theorem high_low {A t : Nat} (ht : t ≤ 63) (hA : A * 2 ^ (64 * 3 + t) < 2 ^ 256) : A / 2 ^ (64 * 0) % 2 ^ 64 % 2 ^ (64 - t) * 2 ^ t / 4 = A * 2 ^ (64 * 3 + t) / 2 ^ 194 := by
  have hlt : A < 2 ^ (64 - t) := by
    refine Nat.lt_of_mul_lt_mul_right (a := 2 ^ (64 * 3 + t)) ?_
    rw [← Nat.pow_add, show 64 - t + (64 * 3 + t) = 256 by omega]
    exact hA
  have hE : 2 ^ (64 - t) ≤ 2 ^ 64 := Nat.pow_le_pow_right (by decide) (by omega)
  rw [Nat.mul_zero, Nat.pow_zero, Nat.div_one, Nat.mod_eq_of_lt (Nat.lt_of_lt_of_le hlt hE), Nat.mod_eq_of_lt hlt, Nat.pow_add, Nat.mul_comm (2 ^ (64 * 3)), ← Nat.mul_assoc]
  rw [show (2 : Nat) ^ 194 = 4 * 2 ^ (64 * 3) from by decide, Nat.mul_div_mul_right _ _ (Nat.two_pow_pos _)]
theorem ok_highest : ∀ (a : Nat) (n : Int), Ok (highC a n) → Owes Tryd.prog Cx.none [] 100 Tryd.f74 [sU a, sI .i64 n] (highG a n) := by
  intro a n hc
  obtain ⟨hn, hlt, _⟩ := hc
  rw [vc_highest]
  obtain ⟨p, t, hnp, ht, hp, y1, y2, y3, _⟩ := n_parts (n := n) (by omega)
  have hp3 : p ≤ 3 := by omega
  have hn2 : n.toNat = 64 * p + t := by omega
  have hlt' : a % M256 * 2 ^ (64 * p + t) < 2 ^ 256 := by rw [← hn2]; exact hlt
  have hN : highN a n = a % M256 * 2 ^ (64 * p + t) / 2 ^ 194 := by unfold highN; rw [hn2]
  have hNlt : highN a n < 4611686018427387904 := by
    rw [hN]
    exact Nat.div_lt_of_lt_mul hlt'
  have hW := W_two t (by omega)
  intro x1 x2 x3 x4
  have E1 : x1 = ((3 - p : Nat) : Int) := by simp only [x1]; rw [y1, IntWalk.i64_in _ (by omega)]; omega
  have E3 : x3 = ((64 - t : Nat) : Int) := y3
  obtain ⟨c, hc, bc⟩ := limb_is a (3 - p)
  have hc' : c = a % M256 / 2 ^ (64 * (3 - p)) % 2 ^ 64 := by
    have : limb a (3 - p) = ((a / 2 ^ (64 * (3 - p)) % 2 ^ 64 : Nat) : Int) := rfl
    rw [hc, limb_mod a (3 - p) (by omega)] at this
    exact_mod_cast this
  have E4 : x4 = IntKind.u64.wrap ((c : Int) * ((2 ^ t : Nat) : Int)) := by simp only [x4]; rw [E1, Int.toNat_natCast, hc, y2, two_min t (by omega)]
  have E2 : x2 = ((3 - p : Nat) : Int) - 1 := by simp only [x2]; rw [E1, IntWalk.i64_in _ (by omega)]
  clear_value x4 x3 x2 x1
  rw [E1, E2, E3, E4, y2]
  refine ⟨by omega, by omega, nn _, fun h => ⟨?_, ?_, nn _, ?_⟩, fun h => ?_⟩
  · have := of_decide_eq_true h; omega
  · have := of_decide_eq_true h; omega
  · have h := of_decide_eq_true h
    obtain ⟨k, hk⟩ : ∃ k, 3 - p = k + 1 := ⟨2 - p, by omega⟩
    have hk2 : p + k = 2 := by omega
    rw [hk] at hc' ⊢
    rw [show ((k + 1 : Nat) : Int) - 1 = ((k : Nat) : Int) by omega, Int.toNat_natCast]
    obtain ⟨d, hd, bd⟩ := limb_is a k
    have hd' : d = a % M256 / 2 ^ (64 * k) % 2 ^ 64 := by
      have : limb a k = ((a / 2 ^ (64 * k) % 2 ^ 64 : Nat) : Int) := rfl
      rw [hd, limb_mod a k (by omega)] at this
      exact_mod_cast this
    rw [hd, two_min (64 - t) (by omega)]
    obtain ⟨o1, _⟩ := or_up c d t (by omega) bd
    rw [o1, hc', hd']
    have e4 : ∀ n : Nat, (n : Int).fdiv 4 = ((n / 4 : Nat) : Int) := fun n => fdiv_nat n 4
    rw [e4, high_word ht hk2 hlt', ← hN, IntWalk.i64_in _ (by omega)]
  · have h := of_decide_eq_false h
    have hp' : p = 3 := by omega
    subst hp'
    have e4 : ∀ n : Nat, (n : Int).fdiv 4 = ((n / 4 : Nat) : Int) := fun n => fdiv_nat n 4
    rw [wrap_up c _ _ hW, e4, hc', show 3 - 3 = 0 from rfl, high_low ht hlt', ← hN, IntWalk.i64_in _ (by omega)]
theorem card_highest : FnOK Tryd.prog 74 (specUJ highC highG) :=
  FnOK_UJ CxOK_nil (iv := fun _ _ => []) (N := 100) Tryd.func74 (by kernel_rfl) (by kernel_rfl) (fun _ _ => bnd_one (bnd_I _ _)) ok_highest

theorem ok_of : ∀ (ls : List (List At)) (vs : List (Option Addr)), Ok (turnC ls) → Owes Tryd.prog cxTurn [] 100 Tryd.f68 (mkArgs [.str [.u, .u, .u, .u], .str [.u, .u]] ls vs) (turnG ls) := by
  intro ls vs hc
  unfold turnC at hc
  split at hc
  · rename_i a b c d p q
    have h : Owes Tryd.prog cxTurn [] 100 Tryd.f68 [.agg [.u a, .u b, .u c, .u d], .agg [.u p, .u q]] (turnG [[.u a, .u b, .u c, .u d], [.u p, .u q]]) := by
      rw [vc_of]
      exact ⟨rfl, rfl, trivial⟩
    exact h
  · exact hc.1.elim
theorem bnd_agg {ks : List SK} (h : ∀ k ∈ ks, ∃ n, k = .u n) : SA.bnd none0 (.agg ks) := by
  intro k hk
  obtain ⟨n, rfl⟩ := h k hk
  trivial
theorem card_of : FnOK Tryd.prog 68 (specA [.str [.u, .u, .u, .u], .str [.u, .u]] turnC turnG) :=
  FnOK_A (CxOK_cons card_Mul (CxOK_cons card_Add CxOK_nil)) (iv := fun _ => []) (N := 100) Tryd.func68 (by kernel_rfl) (by kernel_rfl) (fun ls => by
    unfold turnG
    split
    · exact bnd_one (bnd_agg (by intro k hk; simp only [List.mem_cons, List.not_mem_nil, or_false] at hk; rcases hk with rfl | rfl <;> exact ⟨_, rfl⟩))
    · intro z hz; simp at hz) ok_of
theorem top_bit (a : Nat) : (((limb a 3).fdiv (9223372036854775808 : Int) == (1 : Int)) = true → 57896044618658097711785492504343953926634992332820282019728792003956564819968 ≤ a % M256) ∧ (((limb a 3).fdiv (9223372036854775808 : Int) == (1 : Int)) = false → a % M256 < 57896044618658097711785492504343953926634992332820282019728792003956564819968) := by
  obtain ⟨c0, h0, b0⟩ := limb_is a 0
  obtain ⟨c1, h1, b1⟩ := limb_is a 1
  obtain ⟨c2, h2, b2⟩ := limb_is a 2
  obtain ⟨c3, h3, b3⟩ := limb_is a 3
  have hA := horner_is a c0 c1 c2 c3 h0 h1 h2 h3
  have e : (c3 : Int).fdiv 9223372036854775808 = ((c3 / 9223372036854775808 : Nat) : Int) := fdiv_nat c3 9223372036854775808
  rw [h3, e, hA]
  refine ⟨fun h => ?_, fun h => ?_⟩
  · have := beq_iff_eq.1 h
    omega
  · have := beq_eq_false_iff_ne.1 h
    omega
theorem ok_above : ∀ a m : Nat, Owes Tryd.prog cxAbove [] 100 Tryd.f69 [sU a, sU m] (aboveG a m) := by
  intro a m
  rw [vc_above]
  obtain ⟨t1, t2⟩ := top_bit a
  intro x1 x2 x3
  refine ⟨fun h => ⟨?_, trivial⟩, fun h => ⟨?_, trivial⟩⟩
  · simp only [x3]
    rw [if_pos (t1 h)]
  · simp only [x3]
    rw [if_neg (Nat.not_le_of_lt (t2 h))]
theorem card_above : FnOK Tryd.prog 69 (specUU aboveG) :=
  FnOK_UU (CxOK_cons card_Add CxOK_nil) (iv := []) (N := 100) Tryd.func69 (by kernel_rfl) (by kernel_rfl) (fun _ _ => bnd_one (bnd_U _)) ok_above
end Go.Proofs.YtbfcccoeekonlaaDoor
end

section
/-
  Package field: inverses: several divisions foreseen.
-/
namespace Go.Proofs.YtbfcccoeekonlaaDoor
open Go.Sx

/-- The highest bits of two numbers. -/
theorem fsC_of {p q : Nat} (h : q % M256 < p % M256) : 0 ≤ foN p ∧ foN p ≤ 255 ∧ p % M256 * 2 ^ (foN p).toNat < M256 ∧ q % M256 * 2 ^ (foN p).toNat < M256 ∧
    ∃ N B e0 e1 : Int, FsC (p % M256) (q % M256) N B (highN p (foN p) : Nat) (highN q (foN p) : Nat) e0 e1 4611686018427387904 := by
  have hM : p % M256 < M256 := Nat.mod_lt _ (by rw [M256_eq]; decide)
  unfold foN highN
  generalize p % M256 = P at *
  generalize q % M256 = Q at *
  have hb := bitsN_le (n := P) (k := 256) hM
  obtain ⟨b1, b2⟩ := bitsN_two P (by omega)
  have hb0 : 0 < bitsN P := by
    rcases Nat.eq_zero_or_pos (bitsN P) with e | e
    · rw [e] at b1; omega
    · exact e
  have hD : 2 ^ bitsN P * 2 ^ (256 - bitsN P) = M256 := by rw [← Nat.pow_add, M_pow, show bitsN P + (256 - bitsN P) = 256 by omega]
  have c1 : P * 2 ^ (256 - bitsN P) < M256 := by rw [← hD]; exact Nat.mul_lt_mul_of_pos_right b1 (Nat.two_pow_pos _)
  have c2 : Q * 2 ^ (256 - bitsN P) < M256 := Nat.lt_trans (Nat.mul_lt_mul_of_pos_right h (Nat.two_pow_pos _)) c1
  have c3 : M256 ≤ 2 * (P * 2 ^ (256 - bitsN P)) := by rw [← hD, ← Nat.mul_assoc]; exact Nat.mul_le_mul_right _ b2
  rw [Int.toNat_natCast]
  refine ⟨by omega, by omega, c1, c2, ((2 ^ (256 - bitsN P) : Nat) : Int), ((2 ^ 194 : Nat) : Int), ((P * 2 ^ (256 - bitsN P) % 2 ^ 194 : Nat) : Int), ((Q * 2 ^ (256 - bitsN P) % 2 ^ 194 : Nat) : Int), ?_⟩
  have hN : 0 < 2 ^ (256 - bitsN P) := Nat.two_pow_pos _
  rw [M256_eq] at c1 c2 c3
  have k : ∀ z : Nat, (z : Int) * ((2 ^ (256 - bitsN P) : Nat) : Int) = ((z * 2 ^ (256 - bitsN P) : Nat) : Int) := fun z => (Int.natCast_mul _ _).symm
  generalize 2 ^ (256 - bitsN P) = D at *
  refine ⟨by omega, ?_, ?_, ?_, ?_, ?_, ?_⟩
  · rw [k]
    have := Nat.div_add_mod (P * D) (2 ^ 194)
    generalize P * D = X at *
    omega
  · rw [k]
    have := Nat.div_add_mod (Q * D) (2 ^ 194)
    generalize Q * D = X at *
    omega
  · generalize P * D = X at *
    omega
  · generalize Q * D = X at *
    omega
  · generalize P * D = X at *
    omega
  · generalize Q * D = X at *
    omega
/-- What the steps foreseen come to. -/
theorem foR_goes {p q : Nat} (h : q % M256 < p % M256) : ∃ R0 R1 : Nat, Goes (p % M256) (q % M256) R0 R1 (foR p q).1 (foR p q).2.1 (foR p q).2.2.1 (foR p q).2.2.2 ∧ (R1 < q % M256 ∨ (foR p q).2.1 = 0) := by
  obtain ⟨_, _, _, _, N, B, e0, e1, C⟩ := fsC_of h
  obtain ⟨x, y, F⟩ := FsK.run C (highN q (foN p) + 1) _ _ _ _ _ _ (FsK.start C)
  obtain ⟨R0, R1, g, hg⟩ := F.g
  exact ⟨R0, R1, g, hg.imp id (fun h => h.2)⟩

theorem wrap_step (x z : Int) : IntKind.i64.wrap (x - IntKind.i64.wrap z) = IntKind.i64.wrap (x - z) := by
  rw [IntKind.wrap_i64, IntKind.wrap_i64, IntKind.wrap_i64]
  omega
theorem ent_range {a : Int} (h : a.natAbs ≤ Int.toNat 4611686018427387904) : -9223372036854775808 ≤ a ∧ a ≤ 9223372036854775807 := by
  have : Int.toNat 4611686018427387904 = 4611686018427387904 := rfl
  omega
theorem foC_pair (ls : List (List At)) (h : Ok (foC ls)) : ∃ p q, ls = [[.u p, .u q]] ∧ q % M256 < p % M256 := by
  unfold foC at h
  split at h
  · exact ⟨_, _, rfl, h.1⟩
  · exact h.1.elim
theorem ok_foresee : ∀ p q : Nat, q % M256 < p % M256 → Owes Tryd.prog cxFo [(4, .inv (invFo p q))] 100 Tryd.f66 [.agg [.u p, .u q]] (foG [[.u p, .u q]]) := by
  intro p q hpq
  rw [vc_foresee]
  obtain ⟨n0, n1, hP, hQ, C0⟩ := fsC_of hpq
  intro x1 x2 x3 x4 x5 x6 x7 x8 x9 x10
  refine ⟨⟨n0, n1⟩, hP, ⟨n0, n1⟩, hQ, fun y => rfl, ⟨((highN p (foN p) : Nat) : Int), ((highN q (foN p) : Nat) : Int), 1, 0, 0, 1, highN q (foN p) + 1⟩, ⟨rfl, ?_, ?_⟩, rfl, rfl, rfl, rfl, rfl, rfl, rfl, rfl, rfl, rfl, ?_⟩
  · show ((highN q (foN p) : Nat) + (0 : Int)).toNat < highN q (foN p) + 1
    omega
  · obtain ⟨N, B, e0, e1, C⟩ := C0
    exact ⟨N, B, e0, e1, C, FsK.start C⟩
  rintro ⟨x, y, a, b, c, d, n⟩ ⟨hfs, hlt, N, B, e0, e1, C, F⟩
  dsimp only at hfs hlt F ⊢
  have F' := F
  obtain ⟨_, _, _, p1, p2, p3, p4, sg, ba, bb, bc, bd⟩ := F'
  have ra := ent_range ba
  have rb := ent_range bb
  have rc := ent_range bc
  have rd := ent_range bd
  have w1 : IntKind.i64.wrap (y + c) = y + c := IntWalk.i64_in _ (by clear sg; omega)
  have w2 : IntKind.i64.wrap (y + d) = y + d := IntWalk.i64_in _ (by clear sg; omega)
  have w3 : IntKind.i64.wrap (x + a) = x + a := IntWalk.i64_in _ (by clear sg; omega)
  have w4 : IntKind.i64.wrap (x + b) = x + b := IntWalk.i64_in _ (by clear sg; omega)
  rw [w1, w2, w3, w4]
  have leave : foR p q = (a, b, c, d) → (-9223372036854775808 ≤ a ∧ a ≤ 9223372036854775807) ∧ (-9223372036854775808 ≤ b ∧ b ≤ 9223372036854775807) ∧ (-9223372036854775808 ≤ c ∧ c ≤ 9223372036854775807) ∧ (-9223372036854775808 ≤ d ∧ d ≤ 9223372036854775807) ∧
      (wrN a % M256 = x5 ∧ wrN b % M256 = x7 ∧ wrN c % M256 = x8 ∧ wrN d % M256 = x9 ∧ True) ∧ (b != (0 : Int)) = x10 := by
    intro e
    refine ⟨ra, rb, rc, rd, ⟨?_, ?_, ?_, ?_, trivial⟩, ?_⟩
    · simp only [x5, e]
    · simp only [x7, x6, e]
    · simp only [x8, e]
    · simp only [x9, e]
    · simp only [x10, x6, e]; rfl
  obtain ⟨k, rfl⟩ : ∃ k, n = k + 1 := ⟨n - 1, by omega⟩
  refine ⟨id, id, id, id, fun hc => ?_, fun hc => leave ?_⟩
  · rw [Bool.and_eq_true] at hc
    have hyc : y + c ≠ 0 := bne_iff_ne.1 hc.1
    have hyd : y + d ≠ 0 := bne_iff_ne.1 hc.2
    have t1 : (x + a).tdiv (y + c) = (x + a) / (y + c) := Int.tdiv_eq_ediv_of_nonneg (by clear sg; omega)
    have t2 : (x + b).tdiv (y + d) = (x + b) / (y + d) := Int.tdiv_eq_ediv_of_nonneg (by clear sg; omega)
    have r1 : 0 ≤ (x + a) / (y + c) := Int.ediv_nonneg (by clear sg; omega) p3.1
    have r2 : 0 ≤ (x + b) / (y + d) := Int.ediv_nonneg (by clear sg; omega) p4.1
    have r3 : (x + a) / (y + c) ≤ x + a := Int.ediv_le_self _ (by clear sg; omega)
    have r4 : (x + b) / (y + d) ≤ x + b := Int.ediv_le_self _ (by clear sg; omega)
    have w5 : IntKind.i64.wrap ((x + a) / (y + c)) = (x + a) / (y + c) := IntWalk.i64_in _ (by clear sg; omega)
    have w6 : IntKind.i64.wrap ((x + b) / (y + d)) = (x + b) / (y + d) := IntWalk.i64_in _ (by clear sg; omega)
    rw [t1, t2, w5, w6, wrap_step, wrap_step, wrap_step]
    refine ⟨hyc, hyd, fun hq => leave ?_, fun hq => ?_⟩
    · have hq := bne_iff_ne.1 hq
      rw [← hfs, fs, if_neg (by omega), if_pos hq]
    · have hq : (x + a) / (y + c) = (x + b) / (y + d) := by
        rcases Classical.em ((x + a) / (y + c) = (x + b) / (y + d)) with e | e
        · exact e
        · rw [bne_iff_ne.2 e] at hq; cases hq
      obtain ⟨G, hlt'⟩ := F.step C hyc hyd rfl hq.symm
      have G' := G
      obtain ⟨_, _, _, g1, g2, g3, g4, gs, _, _, gc, gd⟩ := G'
      have hfs' : fs k y (x - (x + a) / (y + c) * y) c d (a - (x + a) / (y + c) * c) (b - (x + a) / (y + c) * d) = foR p q := by
        rw [← hfs, fs, if_neg (by omega), if_neg (fun h => h hq)]
      generalize (x + a) / (y + c) = Q at *
      have gc := ent_range gc
      have gd := ent_range gd
      have v1 : IntKind.i64.wrap (x - Q * y) = x - Q * y := IntWalk.i64_in _ (by
        generalize Q * y = Z at *
        generalize a - Q * c = A at *
        generalize b - Q * d = D at *
        clear sg hfs'
        rcases gs with h | h
        · have := h.2.2.1; have := h.2.2.2.1; omega
        · have := h.2.2.1; have := h.2.2.2.1; omega)
      have v2 : IntKind.i64.wrap (a - Q * c) = a - Q * c := IntWalk.i64_in _ gc
      have v3 : IntKind.i64.wrap (b - Q * d) = b - Q * d := IntWalk.i64_in _ gd
      rw [v1, v2, v3]
      refine ⟨⟨y, x - Q * y, c, d, a - Q * c, b - Q * d, k⟩, ⟨hfs', ?_, N, B, e0, e1, C, G⟩, rfl, rfl, rfl, rfl, rfl, rfl, rfl, rfl, rfl, rfl, Nat.lt_succ_self k⟩
      show (x - Q * y + (a - Q * c)).toNat < k
      clear gs sg hfs'
      omega
  · rw [← hfs, fs, if_pos ?_]
    rcases Classical.em (y + c = 0) with e | e
    · exact .inl e
    · refine .inr ?_
      rcases Classical.em (y + d = 0) with e' | e'
      · exact e'
      · rw [bne_iff_ne.2 e, bne_iff_ne.2 e'] at hc; cases hc
theorem card_foresee : FnOK Tryd.prog 66 (specA [.str [.u, .u]] foC foG) :=
  FnOK_A (CxOK_cons card_fnoughts (CxOK_cons card_highest (CxOK_cons card_signed CxOK_nil))) (iv := fun ls => match ls with
    | [[.u p, .u q]] => [(4, .inv (invFo p q))]
    | _ => []) (N := 100) Tryd.func66 (by kernel_rfl) (by kernel_rfl) (fun ls => by
    unfold foG
    split
    · exact bnd_two (bnd_agg (by intro k hk; simp only [List.mem_cons, List.not_mem_nil, or_false] at hk; rcases hk with rfl | rfl | rfl | rfl <;> exact ⟨_, rfl⟩)) (bnd_B _)
    · intro z hz; simp at hz) (fun ls vs h => by
    obtain ⟨p, q, rfl, h2⟩ := foC_pair ls h
    exact ok_foresee p q h2)
end Go.Proofs.YtbfcccoeekonlaaDoor
end

section
/-
  Package field: inverses.
-/
namespace Go.Proofs.YtbfcccoeekonlaaDoor
open Go.Sx

theorem EuK.le_m {m a r0 r1 : Nat} {s0 s1 : Int} (k : EuK m a r0 r1 s0 s1) (hm : 0 < m) : r0 ≤ m := by
  have hle := k.le
  have hlt := k.lt
  rcases k.sg with ⟨g1, g2, e⟩ | ⟨g1, g2, e⟩
  · have h1 : 1 ≤ s1 := by
      rcases Int.lt_or_le 0 s1 with h | h
      · exact h
      · have : s1 = 0 := by omega
        have : s0 = 0 := by omega
        subst_vars
        omega
    have p1 := Int.mul_le_mul_of_nonneg_left h1 (show (0 : Int) ≤ r0 by omega)
    have p2 := Int.mul_nonpos_of_nonneg_of_nonpos (show (0 : Int) ≤ r1 by omega) g1
    omega
  · have h1 : s1 ≤ -1 := by
      rcases Int.lt_or_le s1 0 with h | h
      · omega
      · have : s1 = 0 := by omega
        have : s0 = 0 := by omega
        subst_vars
        omega
    have p1 := Int.mul_le_mul_of_nonneg_left h1 (show (0 : Int) ≤ r0 by omega)
    have p2 := Int.mul_nonneg (show (0 : Int) ≤ r1 by omega) g1
    omega
/-- Sums of products of numbers with a sign, by 2^256. -/
theorem wr_lin {x y u v : Nat} {X Y A B Z : Int} (hx : (x : Int) % (M256 : Int) = X % (M256 : Int)) (hy : (y : Int) % (M256 : Int) = Y % (M256 : Int)) (hu : (u : Int) % (M256 : Int) = A % (M256 : Int)) (hv : (v : Int) % (M256 : Int) = B % (M256 : Int)) (hZ : X * A + Y * B = Z) :
    (x * u + y * v) % M256 = wrN Z % M256 := by
  have e : (((x * u + y * v) % M256 : Nat) : Int) = ((wrN Z % M256 : Nat) : Int) := by
    rw [Int.natCast_emod, Int.natCast_emod, wrN_cast, Int.emod_emod, Int.natCast_add, Int.natCast_mul, Int.natCast_mul, Int.add_emod, Int.mul_emod (x : Int), Int.mul_emod (y : Int), hx, hy, hu, hv, ← Int.mul_emod, ← Int.mul_emod, ← Int.add_emod, hZ]
  exact_mod_cast e
theorem wr_nat (n : Nat) : wrN (n : Int) % M256 = n % M256 := by
  have e : ((wrN (n : Int) % M256 : Nat) : Int) = ((n % M256 : Nat) : Int) := by
    rw [Int.natCast_emod, wrN_cast, Int.emod_emod, Int.natCast_emod]
  exact_mod_cast e
theorem wr_cast (z : Int) : ((wrN z : Nat) : Int) % (M256 : Int) = z % (M256 : Int) := by rw [wrN_cast, Int.emod_emod]
theorem neg_cast (q : Nat) : (((115792089237316195423570985008687907853269984665640564039457584007913129639936 - q % M256 : Nat) : Int)) % (M256 : Int) = (-(q : Int)) % (M256 : Int) := by
  have hlt : q % M256 < M256 := Nat.mod_lt _ (by rw [M256_eq]; decide)
  rw [← M256_eq, Int.ofNat_sub (Nat.le_of_lt hlt), Int.natCast_emod]
  have e : (M256 : Int) - (q : Int) % (M256 : Int) = -(q : Int) + (M256 : Int) * ((q : Int) / (M256 : Int) + 1) := by
    have := Int.mul_ediv_add_emod (q : Int) (M256 : Int)
    rw [Int.mul_add]
    omega
  rw [e, Int.add_mul_emod_self_left]
theorem inv_end {m a r0 : Nat} {s0 s1 : Int} (hmM : m < M256) (ham : a < m) (k : EuK m a r0 0 s0 s1) (e : euE r0 0 s0 s1 = euE m a 0 1) :
    (r0 ≠ 1 → 0 = invN a m % M256 ∧ (5 : Int) = invE a m) ∧
    (r0 = 1 → ∀ mm : Nat, mm % M256 = m → (if 57896044618658097711785492504343953926634992332820282019728792003956564819968 ≤ wrN s0 % M256 then wrN s0 + mm else wrN s0) % M256 = invN a m % M256 ∧ (0 : Int) = invE a m) := by
  rw [euE_zero] at e
  unfold invN invE
  rw [← e]
  refine ⟨fun h => ?_, fun h mm hmm => ?_⟩
  · rw [if_neg h, if_neg h, Nat.zero_mod]
    exact ⟨rfl, rfl⟩
  · rw [if_pos h, if_pos h]
    refine ⟨?_, rfl⟩
    have hh := k.half
    rw [Nat.mod_eq_of_lt (wrN_lt s0)]
    have hM := M256_eq
    rcases Int.lt_or_le s0 0 with g | g
    · have w : wrN s0 = (s0 + 2 ^ 256).toNat := wrN_neg g (by omega)
      have v : s0 % (m : Int) = s0 + m := by
        rw [← Int.add_emod_right]
        exact Int.emod_eq_of_lt (by omega) (by omega)
      have c : 57896044618658097711785492504343953926634992332820282019728792003956564819968 ≤ wrN s0 := by omega
      rw [if_pos c, v, Nat.add_mod, hmm]
      have q1 : wrN s0 % M256 = wrN s0 := Nat.mod_eq_of_lt (wrN_lt s0)
      rw [q1]
      have q2 : wrN s0 + m = (s0 + m).toNat + M256 := by
        rw [w, hM]
        omega
      rw [q2, Nat.add_mod_right]
    · have w : wrN s0 = s0.toNat := wrN_nonneg g (by omega)
      have v : s0 % (m : Int) = s0 := Int.emod_eq_of_lt g (by omega)
      have c : ¬ 57896044618658097711785492504343953926634992332820282019728792003956564819968 ≤ wrN s0 := by omega
      rw [if_neg c, v, w]

set_option maxHeartbeats 1000000 in
theorem ok_inverse : ∀ a m : Nat, Ok (inverseC a m) → Owes Tryd.prog cxInverse [(2, .inv (invInv a m))] 100 Tryd.f58 [sU a, sU m] (inverseG a m) := by
  intro a m hc
  obtain ⟨ham, _⟩ := hc
  rw [vc_inverse]
  have hM0 : 0 < M256 := by rw [M256_eq]; decide
  have hM1 : 1 % M256 = 1 := by rw [M256_eq]
  have hmM : m % M256 < M256 := Nat.mod_lt _ hM0
  have END := fun (r0 : Nat) (s0 s1 : Int) => inv_end (r0 := r0) (s0 := s0) (s1 := s1) hmM ham
  intro x1 x2 x3 x4
  have E3 : x3 = invN x2 x1 % M256 := rfl
  have E4 : x4 = invE x2 x1 := rfl
  have X1 : m % M256 = x1 := rfl
  have X2 : a % M256 = x2 := rfl
  clear_value x4 x3
  rw [X1, X2] at END
  rw [X1] at hmM
  rw [X1, X2] at ham
  clear_value x2 x1
  refine ⟨fun y => rfl, ⟨x1, x2, 0, 1⟩, ⟨EuK.start ham, rfl, Nat.le_refl _⟩, rfl, rfl, rfl, rfl, rfl, (Nat.mod_eq_of_lt hmM).symm, (Nat.mod_eq_of_lt (Nat.lt_trans ham hmM)).symm, rfl, ⟨(wr_nat 0).symm, ?_, trivial⟩, rfl, ?_⟩
  · have := wr_nat 1
    rw [hM1] at this
    exact this.symm
  rintro ⟨r0, r1, s0, s1⟩ ⟨K, hE, hle⟩
  dsimp only at K hE hle ⊢
  have hlt := K.lt
  have m0 : r0 % M256 = r0 := Nat.mod_eq_of_lt (Nat.lt_of_le_of_lt hle hmM)
  have m1 : r1 % M256 = r1 := Nat.mod_eq_of_lt (Nat.lt_trans hlt (Nat.lt_of_le_of_lt hle hmM))
  rw [m1, m0]
  have hx1 : 0 < x1 := Nat.lt_of_le_of_lt (Nat.zero_le _) ham
  refine ⟨fun h => ⟨hlt, fun hb => ?_, fun hb => ?_⟩, fun h => ?_⟩
  · have hr : r1 ≠ 0 := by
      intro e
      subst e
      revert h
      decide
    rw [if_neg hr]
    have K' := K.step hr
    have l' := EuK.le_m K' hx1
    have hq : ((r0 / r1 : Nat) : Int) = ((r0 / r1 : Nat) : Int) := rfl
    have hdm : (r0 : Int) = (r1 : Int) * ((r0 / r1 : Nat) : Int) + ((r0 % r1 : Nat) : Int) := by exact_mod_cast (Nat.div_add_mod r0 r1).symm
    refine ⟨⟨r1, r0 % r1, s1, s0 - ((r0 / r1 : Nat) : Int) * s1⟩, ⟨K', by rw [← hE, ← euE_step hr], l'⟩, rfl, rfl, rfl, rfl, rfl, ?_, ?_, rfl, ?_, ?_, rfl, Nat.mod_lt _ (Nat.pos_of_ne_zero hr)⟩
    · rw [Nat.zero_mul, Nat.zero_add, Nat.one_mul]
    · rw [← wr_nat (r0 % r1)]
      refine wr_lin (X := 1) (Y := -((r0 / r1 : Nat) : Int)) (A := r0) (B := r1) rfl (neg_cast _) rfl rfl ?_
      rw [Int.one_mul, Int.neg_mul, Int.mul_comm ((r0 / r1 : Nat) : Int)]
      omega
    · rw [Nat.zero_mul, Nat.zero_add, Nat.one_mul]
    · refine wr_lin (X := 1) (Y := -((r0 / r1 : Nat) : Int)) (A := s0) (B := s1) rfl (neg_cast _) (wr_cast _) (wr_cast _) ?_
      show 1 * s0 + -((r0 / r1 : Nat) : Int) * s1 = s0 - ((r0 / r1 : Nat) : Int) * s1
      rw [Int.one_mul, Int.neg_mul, Int.sub_eq_add_neg]
  · obtain ⟨R0, R1, g, hg⟩ := foR_goes (p := r0) (q := r1) (by rw [m0, m1]; exact hlt)
    rw [m0, m1] at g
    rw [m1] at hg
    have hb' : (foR r0 r1).2.1 ≠ 0 := by
      intro e
      rw [e] at hb
      revert hb
      decide
    have hg' : R1 < r1 := hg.resolve_right hb'
    have K' := g.gK _ _ _ _ K
    have l' := EuK.le_m K' hx1
    refine ⟨⟨R0, R1, _, _⟩, ⟨K', by rw [← hE, g.gE], l'⟩, rfl, rfl, rfl, rfl, rfl, ?_, ?_, rfl, ?_, ?_, rfl, hg'⟩
    · rw [← wr_nat R0]
      exact wr_lin (wr_cast _) (wr_cast _) rfl rfl g.e0.symm
    · rw [← wr_nat R1]
      exact wr_lin (wr_cast _) (wr_cast _) rfl rfl g.e1.symm
    · exact wr_lin (wr_cast _) (wr_cast _) (wr_cast _) (wr_cast _) rfl
    · exact wr_lin (wr_cast _) (wr_cast _) (wr_cast _) (wr_cast _) rfl
  · have hr : r1 = 0 := by
      rcases Nat.eq_zero_or_pos r1 with e | e
      · exact e
      · have hne : (r1 == 0) = false := beq_eq_false_iff_ne.2 (by omega)
        rw [hne] at h
        exact absurd h (by decide)
    subst hr
    obtain ⟨e1, e2⟩ := END r0 s0 s1 K hE
    refine ⟨fun h1 => ?_, fun h1 => ?_⟩
    · have hne : r0 ≠ 1 := by
        intro e
        subst e
        revert h1
        decide
      obtain ⟨p, q⟩ := e1 hne
      rw [E3, E4]
      exact ⟨⟨p, trivial⟩, q⟩
    · have heq : r0 = 1 := by
        rcases Classical.em (r0 = 1) with e | e
        · exact e
        · rw [beq_eq_false_iff_ne.2 e] at h1
          exact absurd h1 (by decide)
      obtain ⟨p, q⟩ := e2 heq m X1
      rw [E3, E4]
      exact ⟨⟨p, trivial⟩, q⟩
theorem card_inverse : FnOK Tryd.prog 58 (specUUC inverseC inverseG) :=
  FnOK_UUC (CxOK_cons card_foresee (CxOK_cons card_of (CxOK_cons card_above (CxOK_cons card_DivMod (CxOK_cons card_Sub CxOK_nil))))) (iv := fun a m => [(2, .inv (invInv a m))]) (N := 100) Tryd.func58 (by kernel_rfl) (by kernel_rfl) (fun _ _ => bnd_two (bnd_U _) (bnd_I _ _)) ok_inverse

theorem ok_fInv : ∀ a m : Nat, Owes Tryd.prog cxInv [] 100 Tryd.f46 [sU a, sU m] (finvG a m) := by
  intro a m
  rw [vc_fInv]
  intro x1 x2 x3 x4
  refine ⟨fun h => ?_, fun h => ⟨fun h1 => ?_, fun h1 => ?_⟩⟩
  · have e : finvE a m = 7 := by unfold finvE; rw [if_pos (beq_iff_eq.1 h)]
    simp only [x4, e]
    exact ⟨⟨rfl, trivial⟩, trivial⟩
  · have hge := cmp_ge.1 (of_decide_eq_true h1)
    have e : finvE a m = 6 := by unfold finvE; rw [if_neg (beq_eq_false_iff_ne.1 h), if_neg (Nat.not_lt_of_le hge)]
    simp only [x4, e]
    exact ⟨⟨rfl, trivial⟩, trivial⟩
  · have l1 : a % M256 < m % M256 := Nat.lt_of_not_le fun c => of_decide_eq_false h1 (cmp_ge.2 c)
    have e : finvE a m = invE x2 x1 := by unfold finvE; rw [if_neg (beq_eq_false_iff_ne.1 h), if_pos l1]
    refine ⟨l1, ⟨?_, trivial⟩, e.symm⟩
    simp only [x4]
    rw [e]
    simp only [x3]
    unfold invE invN
    by_cases c : (euE x1 x2 0 1).1 = 1
    · rw [if_pos c, if_pos c, if_pos rfl]
    · rw [if_neg c, if_neg c, if_neg (by decide)]
theorem card_fInv : FnOK Tryd.prog 46 (specUU finvG) :=
  FnOK_UU (CxOK_cons card_Cmp (CxOK_cons card_inverse CxOK_nil)) (iv := []) (N := 100) Tryd.func46 (by kernel_rfl) (by kernel_rfl) (fun _ _ => bnd_two (bnd_U _) (bnd_I _ _)) ok_fInv
end Go.Proofs.YtbfcccoeekonlaaDoor
end

section
/-
  Inverses: laws.
-/
namespace Go.Proofs.YtbfcccoeekonlaaDoor
open Go.Sx

theorem euE_run {m a : Nat} : ∀ (n r0 r1 : Nat) (s0 s1 : Int), r1 ≤ n → EuK m a r0 r1 s0 s1 → ∃ s1', EuK m a (euE r0 r1 s0 s1).1 0 (euE r0 r1 s0 s1).2 s1'
  | 0, r0, r1, s0, s1, h, k => by
    have : r1 = 0 := by omega
    subst this
    exact ⟨s1, k⟩
  | n + 1, r0, r1, s0, s1, h, k => by
    by_cases e : r1 = 0
    · subst e
      exact ⟨s1, k⟩
    · have := Nat.mod_lt r0 (Nat.pos_of_ne_zero e)
      rw [euE_step e]
      exact euE_run n _ _ _ _ (by omega) (k.step e)
theorem invE_gcd (a m : Nat) : invE a m = if Nat.gcd a m = 1 then 0 else 5 := by
  unfold invE
  rw [euE_gcd]
theorem invN_gcd {a m : Nat} (h : Nat.gcd a m = 1) : invN a m = ((euE m a 0 1).2 % (m : Int)).toNat := by
  unfold invN
  rw [euE_gcd, if_pos h]
theorem invN_spec {a m : Nat} (ham : a < m) (h : Nat.gcd a m = 1) : invN a m < m ∧ a * invN a m % m = 1 % m := by
  rw [invN_gcd h]
  have hm : (m : Int) ≠ 0 := by omega
  have h1 := Int.emod_nonneg (euE m a 0 1).2 hm
  have h2 := Int.emod_lt_of_pos (euE m a 0 1).2 (show 0 < (m : Int) by omega)
  refine ⟨by omega, ?_⟩
  obtain ⟨_, k⟩ := euE_run a m a 0 1 (Nat.le_refl _) (EuK.start ham)
  have k0 := k.d0
  rw [euE_gcd, h] at k0
  have e : ((a * ((euE m a 0 1).2 % (m : Int)).toNat % m : Nat) : Int) = ((1 % m : Nat) : Int) := by
    rw [Int.natCast_emod, Int.natCast_mul, Int.toNat_of_nonneg h1, Int.natCast_emod, Int.mul_emod, Int.emod_emod, ← Int.mul_emod]
    exact Int.emod_eq_emod_iff_emod_sub_eq_zero.2 (Int.emod_eq_zero_of_dvd k0)
  exact_mod_cast e
theorem ok_pickBig (n m : Int) (hn : i64ok n) (hm : 0 < m ∧ m ≤ 1048576) : Owes Tryd.prog Cx.none [] 100 Tryd.f5 [sI .i64 n, sI .i64 m] (pickedG n m) := by
  rw [vc_pickBig]
  obtain ⟨h1, h2⟩ := hn
  have hd := Int.tmod_add_mul_tdiv n m
  have b1 := Int.emod_nonneg n (show m ≠ 0 by omega)
  have b2 := Int.emod_lt_of_pos n hm.1
  have hlt := Int.tmod_lt_of_pos n hm.1
  have hgt := Int.lt_tmod_of_pos n hm.1
  have e0 : n.tmod m % m = n % m := by
    conv => rhs; rw [← hd, Int.add_mul_emod_self_left]
  refine ⟨by omega, fun h => ?_, fun h => ?_⟩
  · have h := of_decide_eq_true h
    have e : n.tmod m + m = n % m := by
      rw [← e0, ← Int.add_emod_right]
      exact (Int.emod_eq_of_lt (by omega) (by omega)).symm
    rw [e, IntWalk.i64_in _ (by omega)]
  · have h := of_decide_eq_false h
    rw [← e0]
    exact (Int.emod_eq_of_lt (by omega) hlt).symm
theorem card_pickBig : FnOK Tryd.prog 5 (specII (fun a b => [i64ok a, 0 < b ∧ b ≤ 1048576]) pickedG) :=
  FnOK_II CxOK_nil (iv := []) (N := 100) Tryd.func5 (by kernel_rfl) (by kernel_rfl) (fun _ _ => bnd_one (bnd_I _ _)) (fun a b h => ok_pickBig a b h.1 h.2.1)
end Go.Proofs.YtbfcccoeekonlaaDoor
end

section
/-
  Inverses: laws on small numbers.
-/
namespace Go.Proofs.YtbfcccoeekonlaaDoor
open Go.Sx

theorem small_mod {v : Nat} (h : v < 18446744073709551616) : v % M256 = v := Nat.mod_eq_of_lt (by rw [M256_eq]; omega)
end Go.Proofs.YtbfcccoeekonlaaDoor
end

section
/-
  Package curve: hands that can do what they are asked.
-/
namespace Go.Proofs.YtbfcccoeekonlaaDoor
open Go.Sx

theorem M_pos : 0 < M256 := by rw [M256_eq]; decide
theorem mod_M {v m : Nat} (h : v < m % M256) : v % M256 = v := Nat.mod_eq_of_lt (Nat.lt_trans h (Nat.mod_lt _ M_pos))
theorem fE_zero {a b m : Nat} (ha : a % M256 < m % M256) (hb : b % M256 < m % M256) : fE a b m = 0 := by
  unfold fE
  rw [if_neg (by omega), if_pos ⟨ha, hb⟩]
theorem ok_kept : ∀ (ls : List (List At)) (vs : List (Option Addr)), Ok (keptC ls) → Owes Tryd.prog Cx.none [] 100 Tryd.f37 (mkArgs [.hand, .str [.u], .int .i64] ls vs) (keptG ls) := by
  intro ls vs hc
  unfold keptC at hc
  split at hc
  · rename_i m a e
    have h : Owes Tryd.prog Cx.none [] 100 Tryd.f37 [sHand m (vs.headD none), sU a, sI .i64 e] (keptG [[.u m], [.u a], [.i e]]) := by
      rw [vc_kept]
      obtain ⟨rfl, _⟩ := hc
      exact ⟨fun h => absurd h (by decide), fun _ => ⟨rfl, trivial⟩⟩
    exact h
  · exact hc.1.elim
theorem ok_hadd : ∀ (ls : List (List At)) (vs : List (Option Addr)), Ok (h2C ls) → Owes Tryd.prog cxHadd [] 100 Tryd.f29 (mkArgs shH2 ls vs) (haddG ls) := by
  intro ls vs hc
  unfold h2C at hc
  split at hc
  · rename_i m a b
    have h : Owes Tryd.prog cxHadd [] 100 Tryd.f29 [sHand m (vs.headD none), sU a, sU b] (haddG [[.u m], [.u a], [.u b]]) := by
      rw [vc_hadd]
      obtain ⟨h1, h2, _⟩ := hc
      have e := fE_zero h1 h2
      exact ⟨e, by rw [if_pos e], trivial⟩
    exact h
  · exact hc.1.elim
theorem ok_hsub : ∀ (ls : List (List At)) (vs : List (Option Addr)), Ok (h2C ls) → Owes Tryd.prog cxHsub [] 100 Tryd.f31 (mkArgs shH2 ls vs) (hsubG ls) := by
  intro ls vs hc
  unfold h2C at hc
  split at hc
  · rename_i m a b
    have h : Owes Tryd.prog cxHsub [] 100 Tryd.f31 [sHand m (vs.headD none), sU a, sU b] (hsubG [[.u m], [.u a], [.u b]]) := by
      rw [vc_hsub]
      obtain ⟨h1, h2, _⟩ := hc
      have e := fE_zero h1 h2
      exact ⟨e, by rw [if_pos e], trivial⟩
    exact h
  · exact hc.1.elim
theorem ok_hmul : ∀ (ls : List (List At)) (vs : List (Option Addr)), Ok (h2C ls) → Owes Tryd.prog cxHmul [] 100 Tryd.f27 (mkArgs shH2 ls vs) (hmulG ls) := by
  intro ls vs hc
  unfold h2C at hc
  split at hc
  · rename_i m a b
    have h : Owes Tryd.prog cxHmul [] 100 Tryd.f27 [sHand m (vs.headD none), sU a, sU b] (hmulG [[.u m], [.u a], [.u b]]) := by
      rw [vc_hmul]
      obtain ⟨h1, h2, _⟩ := hc
      have e := fE_zero h1 h2
      exact ⟨e, by rw [if_pos e], trivial⟩
    exact h
  · exact hc.1.elim
theorem ok_hdiv : ∀ (ls : List (List At)) (vs : List (Option Addr)), Ok (hdivC ls) → Owes Tryd.prog cxHdiv [] 100 Tryd.f40 (mkArgs shH2 ls vs) (hdivG ls) := by
  intro ls vs hc
  unfold hdivC at hc
  split at hc
  · rename_i m a b
    have h : Owes Tryd.prog cxHdiv [] 100 Tryd.f40 [sHand m (vs.headD none), sU a, sU b] (hdivG [[.u m], [.u a], [.u b]]) := by
      rw [vc_hdiv]
      obtain ⟨h1, h2, h3, _⟩ := hc
      have e : finvE b m = 0 := by
        unfold finvE
        rw [if_neg (by omega), if_pos h2, invE_gcd, if_pos h3]
      obtain ⟨i1, _⟩ := invN_spec h2 h3
      have i2 := mod_M i1
      intro x1 x2 x3 x4
      have E4 : x4 = x3 := by simp only [x4]; rw [if_pos e]; exact i2
      rw [E4]
      exact ⟨e, h1, i1, rfl, trivial⟩
    exact h
  · exact hc.1.elim
theorem ok_twice : ∀ (ls : List (List At)) (vs : List (Option Addr)), Ok (h1C ls) → Owes Tryd.prog cxTwice [] 100 Tryd.f35 (mkArgs shH1 ls vs) (htwiceG ls) := by
  intro ls vs hc
  unfold h1C at hc
  split at hc
  · rename_i m a
    have h : Owes Tryd.prog cxTwice [] 100 Tryd.f35 [sHand m (vs.headD none), sU a] (htwiceG [[.u m], [.u a]]) := by
      rw [vc_twice]
      obtain ⟨h1, _⟩ := hc
      exact ⟨h1, h1, rfl, trivial⟩
    exact h
  · exact hc.1.elim
theorem ok_thrice : ∀ (ls : List (List At)) (vs : List (Option Addr)), Ok (h1C ls) → Owes Tryd.prog cxThrice [] 100 Tryd.f36 (mkArgs shH1 ls vs) (hthriceG ls) := by
  intro ls vs hc
  unfold h1C at hc
  split at hc
  · rename_i m a
    have h : Owes Tryd.prog cxThrice [] 100 Tryd.f36 [sHand m (vs.headD none), sU a] (hthriceG [[.u m], [.u a]]) := by
      rw [vc_thrice]
      obtain ⟨h1, _⟩ := hc
      have hlt : (a % M256 + a % M256) % (m % M256) < m % M256 := Nat.mod_lt _ (Nat.lt_of_le_of_lt (Nat.zero_le _) h1)
      have e := mod_M hlt
      intro x1 x2 x3 x4
      have E4 : x4 = x3 := e
      rw [E4]
      exact ⟨h1, h1, hlt, rfl, trivial⟩
    exact h
  · exact hc.1.elim
theorem bnd_none : SV.bnd none0 (.tup []) := by intro z hz; simp at hz
theorem card_kept : FnOK Tryd.prog 37 cKept :=
  FnOK_A CxOK_nil (iv := fun _ => []) (N := 100) Tryd.func37 (by kernel_rfl) (by kernel_rfl) (fun ls => by unfold keptG; split; exact bnd_one (bnd_U _); exact bnd_none) ok_kept
theorem card_hadd : FnOK Tryd.prog 29 cHadd :=
  FnOK_A (CxOK_cons card_fAdd (CxOK_cons card_kept CxOK_nil)) (iv := fun _ => []) (N := 100) Tryd.func29 (by kernel_rfl) (by kernel_rfl) (fun ls => by unfold haddG; split; exact bnd_one (bnd_U _); exact bnd_none) ok_hadd
theorem card_hsub : FnOK Tryd.prog 31 cHsub :=
  FnOK_A (CxOK_cons card_fSub (CxOK_cons card_kept CxOK_nil)) (iv := fun _ => []) (N := 100) Tryd.func31 (by kernel_rfl) (by kernel_rfl) (fun ls => by unfold hsubG; split; exact bnd_one (bnd_U _); exact bnd_none) ok_hsub
theorem card_hmul : FnOK Tryd.prog 27 cHmul :=
  FnOK_A (CxOK_cons card_fMul (CxOK_cons card_kept CxOK_nil)) (iv := fun _ => []) (N := 100) Tryd.func27 (by kernel_rfl) (by kernel_rfl) (fun ls => by unfold hmulG; split; exact bnd_one (bnd_U _); exact bnd_none) ok_hmul
theorem card_hdiv : FnOK Tryd.prog 40 cHdiv :=
  FnOK_A (CxOK_cons card_fInv (CxOK_cons card_kept (CxOK_cons card_hmul CxOK_nil))) (iv := fun _ => []) (N := 100) Tryd.func40 (by kernel_rfl) (by kernel_rfl) (fun ls => by unfold hdivG; split; exact bnd_one (bnd_U _); exact bnd_none) ok_hdiv
theorem card_twice : FnOK Tryd.prog 35 cTwice :=
  FnOK_A (CxOK_cons card_hadd CxOK_nil) (iv := fun _ => []) (N := 100) Tryd.func35 (by kernel_rfl) (by kernel_rfl) (fun ls => by unfold htwiceG; split; exact bnd_one (bnd_U _); exact bnd_none) ok_twice
theorem card_thrice : FnOK Tryd.prog 36 cThrice :=
  FnOK_A (CxOK_cons card_hadd (CxOK_cons card_twice CxOK_nil)) (iv := fun _ => []) (N := 100) Tryd.func36 (by kernel_rfl) (by kernel_rfl) (fun ls => by unfold hthriceG; split; exact bnd_one (bnd_U _); exact bnd_none) ok_thrice
end Go.Proofs.YtbfcccoeekonlaaDoor
end

section
/-
  Numbers by a modulus that stand for whole numbers.
-/
namespace Go.Proofs.YtbfcccoeekonlaaDoor
open Go.Sx

/-- n is by p what N is. -/
structure Cg (p n : Nat) (N : Int) : Prop where
  d : (p : Int) ∣ (n : Int) - N
theorem Cg.add {p a b : Nat} {A B : Int} (h : Cg p a A) (h' : Cg p b B) : Cg p (a + b) (A + B) := by
  refine ⟨?_⟩
  have := Int.dvd_add h.d h'.d
  rw [show ((a + b : Nat) : Int) - (A + B) = ((a : Int) - A) + ((b : Int) - B) by rw [Int.natCast_add]; omega]
  exact this
theorem Cg.mul {p a b : Nat} {A B : Int} (h : Cg p a A) (h' : Cg p b B) : Cg p (a * b) (A * B) := by
  obtain ⟨k, hk⟩ := h.d
  obtain ⟨l, hl⟩ := h'.d
  refine ⟨⟨k * b + A * l, ?_⟩⟩
  rw [Int.natCast_mul]
  have e1 : (a : Int) = A + p * k := by omega
  have e2 : (b : Int) = B + p * l := by omega
  rw [e1, e2]
  grind
theorem Cg.sub {p a b : Nat} {A B : Int} (h : Cg p a A) (h' : Cg p b B) (hb : b ≤ p) : Cg p (a + p - b) (A - B) := by
  obtain ⟨k, hk⟩ := h.d
  obtain ⟨l, hl⟩ := h'.d
  refine ⟨⟨k - l + 1, ?_⟩⟩
  rw [Int.mul_add, Int.mul_sub, ← hk, ← hl]
  omega
theorem Cg.to {p n : Nat} {N M : Int} (h : Cg p n N) (hd : (p : Int) ∣ N - M) : Cg p n M := by
  refine ⟨?_⟩
  have := Int.dvd_add h.d hd
  rw [show (n : Int) - M = ((n : Int) - N) + (N - M) by omega]
  exact this
theorem Cg.eq {p n m : Nat} {N : Int} (h : Cg p n N) (h' : Cg p m N) (hn : n < p) (hm : m < p) : n = m := by
  have := Int.dvd_sub h.d h'.d
  rw [show (n : Int) - N - ((m : Int) - N) = (n : Int) - m by omega] at this
  obtain ⟨k, hk⟩ := this
  have h0 : k = 0 := by
    rcases Int.lt_trichotomy k 0 with g | g | g
    · have := Int.mul_le_mul_of_nonneg_left (show k ≤ -1 by omega) (show (0 : Int) ≤ p by omega)
      omega
    · exact g
    · have := Int.mul_le_mul_of_nonneg_left (show 1 ≤ k by omega) (show (0 : Int) ≤ p by omega)
      omega
  rw [h0] at hk
  omega
end Go.Proofs.YtbfcccoeekonlaaDoor
end

section
/-
  Package curve: points.
-/
namespace Go.Proofs.YtbfcccoeekonlaaDoor
open Go.Sx

theorem lt_pos {a m : Nat} (h : a < m) : 0 < m := Nat.lt_of_le_of_lt (Nat.zero_le _) h
theorem md_M {m : Nat} (h : 0 < m % M256) (v : Nat) : v % (m % M256) % M256 = v % (m % M256) := mod_M (Nat.mod_lt v h)
theorem ok_right : ∀ (ls : List (List At)) (vs : List (Option Addr)), Ok (rightC ls) → Owes Tryd.prog cxRight [] 100 Tryd.f28 (mkArgs [.hand, .str pCv, .str [.u]] ls vs) (rightG ls) := by
  intro ls vs hc
  unfold rightC at hc
  split at hc
  · rename_i m P A B N X Y F x
    have h : Owes Tryd.prog cxRight [] 100 Tryd.f28 [sHand m (vs.headD none), sCv P A B N X Y F, sU x] (rightG [[.u m], [.u P, .u A, .u B, .u N, .u X, .u Y, .b F], [.u x]]) := by
      rw [vc_right]
      obtain ⟨hA, hB, hx, _⟩ := hc
      have mM := md_M (lt_pos hx)
      have lt := fun v => Nat.mod_lt v (lt_pos hx)
      intro x1 x2 x3 x4 x5 x6 x7 x8
      have E3 : x3 = x1 * x1 % x2 := mM _
      have E5 : x5 = x1 * x3 % x2 := mM _
      have E6 : x6 = x4 * x1 % x2 := mM _
      have E7 : x7 = (x5 + x6) % x2 := mM _
      refine ⟨hx, hx, hx, by rw [E3]; exact lt _, hA, hx, by rw [E5]; exact lt _, by rw [E6]; exact lt _, by rw [E7]; exact lt _, hB, ?_, trivial⟩
      rw [E7, E6, E5, E3]
      rfl
    exact h
  · exact hc.1.elim
theorem ok_slopes : ∀ (ls : List (List At)) (vs : List (Option Addr)), Ok (slopesC ls) → Owes Tryd.prog cxSlopes [] 100 Tryd.f26 (mkArgs [.hand, .str pCv] ls vs) (slopesG ls) := by
  intro ls vs hc
  unfold slopesC at hc
  split at hc
  · rename_i m P A B N X Y F
    have h : Owes Tryd.prog cxSlopes [] 100 Tryd.f26 [sHand m (vs.headD none), sCv P A B N X Y F] (slopesG [[.u m], [.u P, .u A, .u B, .u N, .u X, .u Y, .b F]]) := by
      rw [vc_slopes]
      obtain ⟨hA, hB, _⟩ := hc
      have mM := md_M (lt_pos hA)
      have lt := fun v => Nat.mod_lt v (lt_pos hA)
      intro x1 x2 x3 x4 x5 x6 x7 x8 x9 x10 x11
      have E3 : x3 = x1 * x1 % x2 := mM _
      have E5 : x5 = x1 * x3 % x2 := mM _
      have E6 : x6 = (x5 + x5) % x2 := mM _
      have E7 : x7 = x4 * x4 % x2 := mM _
      have E8 : x8 = tw3 x2 x7 := mM _
      have E9 : x9 = tw3 x2 x8 := mM _
      have E10 : x10 = (x6 + x6) % x2 := mM _
      have E11 : x11 = tw3 x2 x9 := mM _
      refine ⟨hA, hA, hA, by rw [E3]; exact lt _, hB, hB, by rw [E5]; exact lt _, by rw [E6]; exact lt _, by rw [E7]; exact lt _, by rw [E8]; exact lt _, by rw [E9]; exact lt _, by rw [E10]; exact lt _, by rw [E11]; exact lt _, ?_, trivial⟩
      rw [E11, E10, E9, E8, E7, E6, E5, E3]
      rfl
    exact h
  · exact hc.1.elim
theorem ok_have : ∀ (ls : List (List At)) (vs : List (Option Addr)), Ok (haveC ls) → Owes Tryd.prog cxHave [] 100 Tryd.f16 (mkArgs [.hand, .str pCv, .str pPt] ls vs) (voidG ls) := by
  intro ls vs hc
  unfold haveC at hc
  split at hc
  · rename_i m P A B N X Y F x y f
    have h : Owes Tryd.prog cxHave [] 100 Tryd.f16 [sHand m (vs.headD none), sCv P A B N X Y F, sPt x y f] (.tup []) := by
      rw [vc_have]
      obtain ⟨hA, hB, hon, _⟩ := hc
      intro x1 x2 x3 x4 x5
      refine ⟨fun hf => ?_, fun hf => ?_⟩
      · obtain ⟨e1, e2⟩ := hon.far hf
        have e1 : x1 = 0 := e1
        have e2 : x2 = 0 := e2
        rw [e1, e2, hf]
        exact ⟨fun h => absurd h (by decide), fun _ => trivial⟩
      · obtain ⟨l1, l2, e⟩ := hon.near hf
        have e : x2 * x2 % x3 = rhsN x3 x4 x5 x1 := e
        rw [e]
        have c : (rhsN x3 x4 x5 x1 % M256 == rhsN x3 x4 x5 x1 % M256) = true := beq_self_eq_true _
        rw [c]
        exact ⟨l2, l2, hA, hB, l1, fun h => absurd h (by decide), fun _ => trivial⟩
    exact h
  · exact hc.1.elim
theorem cmp_gt {a m : Nat} (h : m % M256 < a % M256) : decide (cmpN a m > 0) = true := by
  unfold cmpN
  rw [if_neg (by omega), if_pos h]
  rfl
theorem limb_four {P : Nat} (h : P % M256 % 4 = 3) : ((limb P 0).tmod 4 == (3 : Int)) = true := by
  have e : limb P 0 = ((P / 2 ^ (64 * 0) % 2 ^ 64 : Nat) : Int) := rfl
  rw [e, limb_mod P 0 (by decide), beq_iff_eq, Int.tmod_eq_emod_of_nonneg (Int.natCast_nonneg _)]
  generalize P % M256 = Q at *
  have : Q / 2 ^ (64 * 0) % 2 ^ 64 % 4 = 3 := by
    rw [Nat.mul_zero, Nat.pow_zero, Nat.div_one]
    omega
  omega
theorem ok_be : ∀ (ls : List (List At)) (vs : List (Option Addr)), Ok (beC ls) → Owes Tryd.prog cxBe [] 100 Tryd.f15 (mkArgs [.hand, .str pCv] ls vs) (voidG ls) := by
  intro ls vs hc
  unfold beC at hc
  split at hc
  · rename_i m P A B N X Y F
    have h : Owes Tryd.prog cxBe [] 100 Tryd.f15 [sHand m (vs.headD none), sCv P A B N X Y F] (.tup []) := by
      rw [vc_be]
      obtain ⟨hm, g, _⟩ := hc
      rw [← hm] at g
      have g3 : 3 < P % M256 := by rw [← hm]; exact g.P3
      have g4 : P % M256 % 4 = 3 := by rw [← hm]; exact g.P4
      have c1 : decide (cmpN P 3 > 0) = true := cmp_gt (by rw [small_mod (show 3 < 18446744073709551616 by decide)]; exact g3)
      have c2 : decide (cmpN N 1 > 0) = true := cmp_gt (by rw [small_mod (show 1 < 18446744073709551616 by decide)]; exact g.N1)
      have c3 : (slopesN (m % M256) (A % M256) (B % M256) % M256 == 0) = false := by
        have : slopesN (m % M256) (A % M256) (B % M256) % M256 = slopesN (m % M256) (A % M256) (B % M256) := md_M (lt_pos g.A0) _
        rw [this]
        exact beq_eq_false_iff_ne.2 g.s0
      have c4 : F = false := g.b0
      intro x1 x2 x3 x4
      have E1 : x1 = true := c1
      have E5 : (slopesN x3 x2 x4 % M256 == 0) = false := c3
      rw [E1, c2, limb_four g4, E5, c4]
      exact ⟨id, id, id, id, id, fun h => absurd h (by decide), fun _ => ⟨fun h => absurd h (by decide), fun _ => ⟨g.A0, g.B0, fun h => absurd h (by decide), fun _ => ⟨fun h => absurd h (by decide), fun _ => ⟨g.A0, g.B0, by rw [← c4]; exact g.on, trivial⟩⟩⟩⟩⟩
    exact h
  · exact hc.1.elim
theorem ok_slope : ∀ (ls : List (List At)) (vs : List (Option Addr)), Ok (slopeC ls) → Owes Tryd.prog cxSlope [] 100 Tryd.f30 (mkArgs [.hand, .str [.u], .str pPt, .str pPt] ls vs) (slopeG ls) := by
  intro ls vs hc
  unfold slopeC at hc
  split at hc
  · rename_i m A x y f z w g
    have h : Owes Tryd.prog cxSlope [] 100 Tryd.f30 [sHand m (vs.headD none), sU A, sPt x y f, sPt z w g] (slopeG [[.u m], [.u A], [.u x, .u y, .b f], [.u z, .u w, .b g]]) := by
      rw [vc_slope]
      obtain ⟨hA, rfl, rfl, hp, hq, hs, _⟩ := hc
      obtain ⟨l1, l2⟩ := hp.lt rfl
      obtain ⟨l3, l4⟩ := hq.lt rfl
      have mM := md_M (lt_pos hA)
      have lt := fun v => Nat.mod_lt v (lt_pos hA)
      have seq := hs.eq
      have sne := hs.ne
      intro x1 x2 x3 x4 x5 x6 x7 x8 x9 x10 x11 x12 x13
      have E6 : x6 = x1 * x1 % x5 := mM _
      have E7 : x7 = tw3 x5 x6 := mM _
      have E9 : x9 = (x7 + x8) % x5 := mM _
      have E10 : x10 = (x3 + x3) % x5 := mM _
      have E12 : x12 = (x4 + x5 - x3) % x5 := mM _
      have E13 : x13 = (x2 + x5 - x1) % x5 := mM _
      have E11 : x11 = slopeN x5 x8 (x1, x3, false) (x2, x4, false) % M256 := rfl
      have seq : (x1, x3, false) = (x2, x4, false) → Nat.gcd ((x3 + x3) % x5) x5 = 1 := seq
      have sne : (x1, x3, false) ≠ (x2, x4, false) → Nat.gcd ((x2 + x5 - x1) % x5) x5 = 1 := sne
      have l1 : x1 < x5 := l1
      have l2 : x3 < x5 := l2
      have l3 : x2 < x5 := l3
      have l4 : x4 < x5 := l4
      have hA : x8 < x5 := hA
      refine ⟨fun h => ?_, fun h => ?_⟩
      · rw [conj_all] at h
        simp only [List.all_cons, List.all_nil, id_eq, Bool.and_true, Bool.and_eq_true, beq_iff_eq] at h
        obtain ⟨h1, h2, _⟩ := h
        have hpq : (x1, x3, false) = (x2, x4, false) := by rw [h1, h2]
        refine ⟨l1, l1, by rw [E6]; exact lt _, by rw [E7]; exact lt _, hA, l2, by rw [E9]; exact lt _, by rw [E10]; exact lt _, by rw [E10]; exact seq hpq, ?_, trivial⟩
        rw [E11]
        unfold slopeN
        rw [if_pos hpq, E9, E10, E7, E6]
      · have hpq : (x1, x3, false) ≠ (x2, x4, false) := by
          intro e
          have h1 : x1 = x2 := congrArg (·.1) e
          have h2 : x3 = x4 := congrArg (·.2.1) e
          rw [h1, h2] at h
          rw [conj_all] at h
          simp at h
        refine ⟨l4, l2, l3, l1, by rw [E12]; exact lt _, by rw [E13]; exact lt _, by rw [E13]; exact sne hpq, ?_, trivial⟩
        rw [E11]
        unfold slopeN
        rw [if_neg hpq, E12, E13]
    exact h
  · exact hc.1.elim
theorem ok_told : ∀ (ls : List (List At)) (vs : List (Option Addr)), Ok (toldC ls) → Owes Tryd.prog Cx.none [] 100 Tryd.f19 (mkArgs [.str pPt, .int .i64] ls vs) (toldG ls) := by
  intro ls vs hc
  unfold toldC at hc
  split at hc
  · rename_i x y f e
    have h : Owes Tryd.prog Cx.none [] 100 Tryd.f19 [sPt x y f, sI .i64 e] (toldG [[.u x, .u y, .b f], [.i e]]) := by
      rw [vc_told]
      obtain ⟨rfl, _⟩ := hc
      exact ⟨fun h => absurd h (by decide), fun _ => ⟨⟨rfl, rfl, rfl, trivial⟩, rfl⟩⟩
    exact h
  · exact hc.1.elim
theorem ok_far : Owes Tryd.prog Cx.none [] 100 Tryd.f17 [] farG := by
  rw [vc_far]
  exact ⟨rfl, rfl, rfl, trivial⟩
theorem ok_sumP : ∀ (ls : List (List At)) (vs : List (Option Addr)), Ok (sumPC ls) → Owes Tryd.prog cxSumP [] 100 Tryd.f18 (mkArgs [.hand, .str [.u], .str pPt, .str pPt] ls vs) (sumPG ls) := by
  intro ls vs hc
  unfold sumPC at hc
  split at hc
  · rename_i m A x y f z w g
    have h : Owes Tryd.prog cxSumP [] 100 Tryd.f18 [sHand m (vs.headD none), sU A, sPt x y f, sPt z w g] (sumPG [[.u m], [.u A], [.u x, .u y, .b f], [.u z, .u w, .b g]]) := by
      rw [vc_sumP]
      obtain ⟨hs, _⟩ := hc
      have hA := hs.A0
      have hp := hs.p0
      have hq := hs.q0
      have hsl := hs.sl
      have mM := md_M (lt_pos hA)
      have lt := fun v => Nat.mod_lt v (lt_pos hA)
      intro x1 x2 x3 x4 x5 x6 x7 x8 x9 x10 x11 x12 x13 x14 x15 x16
      have C4 : x4 = (csum x2 x3 (x8, x9, f) (x1, x5, g)).1 % M256 := rfl
      have C6 : x6 = (csum x2 x3 (x8, x9, f) (x1, x5, g)).2.1 % M256 := rfl
      have C7 : x7 = (csum x2 x3 (x8, x9, f) (x1, x5, g)).2.2 := rfl
      have m8 : x8 % M256 = x8 := Nat.mod_mod _ _
      have m9 : x9 % M256 = x9 := Nat.mod_mod _ _
      have m1 : x1 % M256 = x1 := Nat.mod_mod _ _
      have m5 : x5 % M256 = x5 := Nat.mod_mod _ _
      refine ⟨fun hf => ?_, fun hf => ⟨fun hg => ?_, fun hg => ⟨id, id, id, id, id, fun _ => (hp.lt hf).2, fun _ => (hq.lt hg).2, id, id, id, fun hh => ?_, fun hh => ?_⟩⟩⟩
      · have e : csum x2 x3 (x8, x9, f) (x1, x5, g) = (x1, x5, g) := by unfold csum; rw [if_pos hf]
        rw [C4, C6, C7, e]
        exact ⟨m1.symm, m5.symm, rfl, trivial⟩
      · have e : csum x2 x3 (x8, x9, f) (x1, x5, g) = (x8, x9, f) := by unfold csum; rw [if_neg (by rw [hf]; exact Bool.false_ne_true), if_pos hg]
        rw [C4, C6, C7, e]
        exact ⟨m8.symm, m9.symm, rfl, trivial⟩
      · have m95 := mM (x9 + x5)
        have m95 : (x9 + x5) % x2 % M256 = (x9 + x5) % x2 := m95
        rw [m95] at hh
        simp only [x10, conj_all, List.all_cons, List.all_nil, id_eq, Bool.and_true, Bool.and_eq_true, beq_iff_eq] at hh
        have e : csum x2 x3 (x8, x9, f) (x1, x5, g) = (0, 0, true) := by unfold csum; rw [if_neg (by rw [hf]; exact Bool.false_ne_true), if_neg (by rw [hg]; exact Bool.false_ne_true), if_pos hh]
        rw [C4, C6, C7, e]
        exact ⟨(Nat.zero_mod _).symm, (Nat.zero_mod _).symm, rfl, trivial⟩
      · have m95 : (x9 + x5) % x2 % M256 = (x9 + x5) % x2 := mM (x9 + x5)
        rw [m95] at hh
        have hn : ¬ (x8 = x1 ∧ (x9 + x5) % x2 = 0) := by
          intro h
          simp only [x10, conj_all, List.all_cons, List.all_nil, id_eq, Bool.and_true, beq_iff_eq.2 h.1, beq_iff_eq.2 h.2] at hh
          exact absurd hh (by decide)
        have hso := hsl hf hg hn
        have e : csum x2 x3 (x8, x9, f) (x1, x5, g) = throughN x2 (slopeN x2 x3 (x8, x9, f) (x1, x5, g)) (x8, x9, f) (x1, x5, g) := by unfold csum; rw [if_neg (by rw [hf]; exact Bool.false_ne_true), if_neg (by rw [hg]; exact Bool.false_ne_true), if_neg hn]
        have hslt : slopeN x2 x3 (x8, x9, f) (x1, x5, g) < x2 := by
          unfold slopeN
          split <;> exact lt _
        have E11 : x11 = slopeN x2 x3 (x8, x9, f) (x1, x5, g) := mod_M hslt
        have l11 : x11 < x2 := by rw [E11]; exact hslt
        have E12 : x12 = x11 * x11 % x2 := mM _
        have E13 : x13 = (x12 + x2 - x8) % x2 := mM _
        have E14 : x14 = (x13 + x2 - x1) % x2 := mM _
        have E15 : x15 = (x8 + x2 - x14) % x2 := mM _
        have E16 : x16 = x11 * x15 % x2 := mM _
        have l14 : x14 < x2 := by rw [E14]; exact lt _
        rw [C4, C6, C7, e, ← E11]
        refine ⟨hA, hf, hg, hp, hq, hso, l11, l11, by rw [E12]; exact lt _, (hp.lt hf).1, by rw [E13]; exact lt _, (hq.lt hg).1, (hp.lt hf).1, l14, l11, by rw [E15]; exact lt _, by rw [E16]; exact lt _, (hp.lt hf).2, ?_, ?_, rfl, trivial⟩
        · unfold throughN
          rw [← E12, ← E13, ← E14]
          exact (mod_M l14).symm
        · unfold throughN
          rw [← E12, ← E13, ← E14, ← E15, ← E16]
    exact h
  · exact hc.1.elim
theorem card_right : FnOK Tryd.prog 28 cRight :=
  FnOK_A (CxOK_cons card_hadd (CxOK_cons card_hmul CxOK_nil)) (iv := fun _ => []) (N := 100) Tryd.func28 (by kernel_rfl) (by kernel_rfl) (fun ls => by unfold rightG; split; exact bnd_one (bnd_U _); exact bnd_none) ok_right
theorem card_slopes : FnOK Tryd.prog 26 cSlopes :=
  FnOK_A (CxOK_cons card_hadd (CxOK_cons card_hmul (CxOK_cons card_twice (CxOK_cons card_thrice CxOK_nil)))) (iv := fun _ => []) (N := 100) Tryd.func26 (by kernel_rfl) (by kernel_rfl) (fun ls => by unfold slopesG; split; exact bnd_one (bnd_U _); exact bnd_none) ok_slopes
theorem bnd_pt (p : Pt) : SA.bnd none0 (ptS p) := by
  intro k hk
  simp only [List.mem_cons, List.not_mem_nil, or_false] at hk
  rcases hk with rfl | rfl | rfl <;> trivial
theorem card_far : FnOK Tryd.prog 17 (spec0 farG) :=
  FnOK_0 CxOK_nil (iv := []) (N := 100) Tryd.func17 (by kernel_rfl) (by kernel_rfl) (by
    intro k hk
    simp only [List.mem_cons, List.not_mem_nil, or_false] at hk
    rcases hk with rfl | rfl | rfl <;> trivial) ok_far
theorem card_have : FnOK Tryd.prog 16 cHave :=
  FnOK_A (CxOK_cons card_hmul (CxOK_cons card_right (CxOK_cons card_far CxOK_nil))) (iv := fun _ => []) (N := 100) Tryd.func16 (by kernel_rfl) (by kernel_rfl) (fun _ => bnd_none) ok_have
theorem card_be : FnOK Tryd.prog 15 cBe :=
  FnOK_A (CxOK_cons card_Cmp (CxOK_cons card_slopes (CxOK_cons card_have CxOK_nil))) (iv := fun _ => []) (N := 100) Tryd.func15 (by kernel_rfl) (by kernel_rfl) (fun _ => bnd_none) ok_be
theorem card_slope : FnOK Tryd.prog 30 cSlope :=
  FnOK_A (CxOK_cons card_hadd (CxOK_cons card_hsub (CxOK_cons card_hmul (CxOK_cons card_hdiv (CxOK_cons card_twice (CxOK_cons card_thrice CxOK_nil)))))) (iv := fun _ => []) (N := 100) Tryd.func30 (by kernel_rfl) (by kernel_rfl) (fun ls => by unfold slopeG; split; exact bnd_one (bnd_U _); exact bnd_none) ok_slope
theorem card_sumP : FnOK Tryd.prog 18 cSum :=
  FnOK_A (CxOK_cons card_hadd (CxOK_cons card_hsub (CxOK_cons card_hmul (CxOK_cons card_slope (CxOK_cons card_far CxOK_nil))))) (iv := fun _ => []) (N := 100) Tryd.func18 (by kernel_rfl) (by kernel_rfl) (fun ls => by unfold sumPG; split; exact bnd_one (bnd_pt _); exact bnd_none) ok_sumP
theorem card_told : FnOK Tryd.prog 19 cTold :=
  FnOK_A CxOK_nil (iv := fun _ => []) (N := 100) Tryd.func19 (by kernel_rfl) (by kernel_rfl) (fun ls => by
    unfold toldG
    split
    · exact bnd_two (bnd_pt (_, _, _)) trivial
    · exact bnd_none) ok_told
end Go.Proofs.YtbfcccoeekonlaaDoor
end

section
/-
  Package curve: its faces, on curves and points that may be.
-/
namespace Go.Proofs.YtbfcccoeekonlaaDoor
open Go.Sx

structure inM (p : Pt) : Prop where
  x : p.1 < M256
  y : p.2.1 < M256
theorem red_inM (x y : Nat) (f : Bool) : inM (red x y f) := ⟨Nat.mod_lt _ M_pos, Nat.mod_lt _ M_pos⟩
theorem red_same {p : Pt} (h : inM p) : red p.1 p.2.1 p.2.2 = p := by
  unfold red
  rw [Nat.mod_eq_of_lt h.x, Nat.mod_eq_of_lt h.y]
theorem csum_inM {m A : Nat} {p q : Pt} (h0 : 0 < m) (hm : m < M256) (hp : inM p) (hq : inM q) : inM (csum m A p q) := by
  unfold csum
  split
  · exact hq
  · split
    · exact hp
    · split
      · exact ⟨M_pos, M_pos⟩
      · exact ⟨Nat.lt_trans (Nat.mod_lt _ h0) hm, Nat.lt_trans (Nat.mod_lt _ h0) hm⟩
theorem cmulR_inM {m A k : Nat} {p : Pt} (h0 : 0 < m) (hm : m < M256) (hp : inM p) : ∀ n, inM (cmulR m A k p n)
  | 0 => ⟨M_pos, M_pos⟩
  | n + 1 => by
    have ih := cmulR_inM (A := A) (k := k) h0 hm hp n
    rw [cmulR]
    split
    · exact csum_inM h0 hm (csum_inM h0 hm ih ih) hp
    · exact csum_inM h0 hm ih ih
set_option maxHeartbeats 1000000 in
theorem ok_cMult : ∀ (P A B N X Y : Nat) (F : Bool) (k x y : Nat) (f : Bool), goodP (P % M256) (A % M256) (B % M256) (N % M256) (red X Y F) → onP (P % M256) (A % M256) (B % M256) (red x y f) → mulOK (P % M256) (A % M256) (k % M256) (red x y f) →
    Owes Tryd.prog cxCMult [(7, .inv (invMult P A B N X Y F k x y f))] 100 Tryd.f9 [sCv P A B N X Y F, sU k, sPt x y f] (cMultG [[.u P, .u A, .u B, .u N, .u X, .u Y, .b F], [.u k], [.u x, .u y, .b f]]) := by
  intro P A B N X Y F k x y f hg hp hk
  rw [vc_cMult]
  have hbit := fun j hj => limb_bit k j hj
  have h0 := lt_pos hg.A0
  have hm : P % M256 < M256 := Nat.mod_lt _ M_pos
  have RS := fun n => red_same (cmulR_inM (A := A % M256) (k := k % M256) h0 hm (red_inM x y f) n)
  have RC := fun n => red_same (csum_inM (A := A % M256) h0 hm (cmulR_inM (A := A % M256) (k := k % M256) h0 hm (red_inM x y f) n) (cmulR_inM (A := A % M256) (k := k % M256) h0 hm (red_inM x y f) n))
  have kd := hk.dbl
  have ka := hk.add
  have step1 := fun n (h : (k % M256).testBit (255 - n) = true) => (show cmulR (P % M256) (A % M256) (k % M256) (red x y f) (n + 1) = csum (P % M256) (A % M256) (csum (P % M256) (A % M256) (cmulR (P % M256) (A % M256) (k % M256) (red x y f) n) (cmulR (P % M256) (A % M256) (k % M256) (red x y f) n)) (red x y f) by rw [cmulR, if_pos h])
  have step0 := fun n (h : (k % M256).testBit (255 - n) = false) => (show cmulR (P % M256) (A % M256) (k % M256) (red x y f) (n + 1) = csum (P % M256) (A % M256) (cmulR (P % M256) (A % M256) (k % M256) (red x y f) n) (cmulR (P % M256) (A % M256) (k % M256) (red x y f) n) by rw [cmulR, if_neg (by rw [h]; exact Bool.false_ne_true)])
  intro x1 x2 x3 x4 x5 x6 x7 x8 x9
  refine ⟨rfl, hg, hg.A0, hg.B0, hp, fun y => rfl, 0, by decide, rfl, rfl, rfl, rfl, rfl, rfl, rfl, rfl, rfl, rfl, rfl, rfl, rfl, rfl, rfl, rfl, rfl, rfl, rfl, rfl, rfl, rfl, rfl, fun n hn => ⟨id, id, fun hc => ?_, fun hc => ?_⟩⟩
  · rw [Bool.and_eq_true] at hc
    have hn' : n ≤ 255 := by have := of_decide_eq_true hc.1; omega
    obtain ⟨j, hj⟩ : ∃ j : Nat, j = 255 - n := ⟨_, rfl⟩
    have hjI : (255 : Int) - (n : Int) = (j : Int) := by omega
    have t1 : IntKind.i64.wrap ((j : Int).tdiv 64) = ((j / 64 : Nat) : Int) := by
      have e : (j : Int).tdiv 64 = ((j / 64 : Nat) : Int) := tdiv_nat j 64
      rw [e, IntWalk.i64_in _ (by omega)]
    have t2 : (j : Int).tmod 64 = ((j % 64 : Nat) : Int) := by
      rw [Int.tmod_eq_emod_of_nonneg (Int.natCast_nonneg _)]
      exact (Int.natCast_emod j 64).symm
    have t3 : IntKind.i64.wrap ((j : Int) - 1) = 255 - ((n + 1 : Nat) : Int) := by
      rw [IntWalk.i64_in _ (by omega)]
      omega
    have hq : (0 : Int) ≤ ((j / 64 : Nat) : Int) ∧ ((j / 64 : Nat) : Int) < 4 := by omega
    have kd := kd n (by omega)
    have ka := ka n (by omega)
    have s1 := step1 n
    have s0 := step0 n
    rw [← hj] at ka s1 s0
    rw [hjI, t1, t2, t3, two_min _ (by omega), Int.toNat_natCast, hbit j (by omega), RS n, RC n]
    refine ⟨kd, hq, hq, nn _, fun hb => ⟨ka hb, n + 1, by omega, rfl, rfl, rfl, rfl, rfl, rfl, rfl, rfl, rfl, rfl, rfl, rfl, rfl, rfl, rfl, rfl, rfl, rfl, rfl, ?_, ?_, ?_, rfl, by omega⟩, fun hb => ⟨n + 1, by omega, rfl, rfl, rfl, rfl, rfl, rfl, rfl, rfl, rfl, rfl, rfl, rfl, rfl, rfl, rfl, rfl, rfl, rfl, rfl, ?_, ?_, ?_, rfl, by omega⟩⟩
    · rw [s1 hb]
    · rw [s1 hb]
    · rw [s1 hb]
    · rw [s0 hb]
    · rw [s0 hb]
    · rw [s0 hb]
  · have hn' : n = 256 := by
      rcases Nat.lt_or_ge n 256 with e | e
      · rw [decide_eq_true (show (255 : Int) - (n : Int) ≥ 0 by omega)] at hc
        exact absurd hc (by decide)
      · omega
    rw [hn']
    exact ⟨rfl, ⟨rfl, rfl, rfl, trivial⟩, rfl⟩
def cMultS : FSpec := specA [.str pCv, .str [.u], .str pPt] cMultC cMultG
theorem card_cMult : FnOK Tryd.prog 9 cMultS :=
  FnOK_A (CxOK_cons card_be (CxOK_cons card_have (CxOK_cons card_sumP (CxOK_cons card_told (CxOK_cons card_far CxOK_nil))))) (iv := fun ls => match ls with
    | [[.u P, .u A, .u B, .u N, .u X, .u Y, .b F], [.u k], [.u x, .u y, .b f]] => [(7, .inv (invMult P A B N X Y F k x y f))]
    | _ => []) (N := 100) Tryd.func9 (by kernel_rfl) (by kernel_rfl) (fun ls => by
    unfold cMultG
    split
    · exact bnd_two (bnd_pt _) trivial
    · exact bnd_none) (fun ls vs hc => by
    unfold cMultC at hc
    split at hc
    · rename_i P A B N X Y F k x y f
      exact ok_cMult P A B N X Y F k x y f hc.1 hc.2.1 hc.2.2.1
    · exact hc.1.elim)
end Go.Proofs.YtbfcccoeekonlaaDoor
end

section
/-
  The points of the small curves, each so often the base as its place says (at place 0 a mark).
-/
namespace Go.Proofs.YtbfcccoeekonlaaDoor
end Go.Proofs.YtbfcccoeekonlaaDoor
end

section
/-
  The points of the small curves: any two have the sum that their places say (checked one by one).
-/
namespace Go.Proofs.YtbfcccoeekonlaaDoor

def pairOK (p x1 y1 : Nat) (q r : Nat × Nat) : Bool :=
  match q, r with
  | (x2, y2), (x3, y3) =>
    Nat.beq y3 0 || (!Nat.beq x1 x2 && (Nat.beq ((x3 + x1 + x2) * ((x2 + p - x1) * (x2 + p - x1)) % p) ((y2 + p - y1) * (y2 + p - y1) % p) && Nat.beq ((y3 + y1) * (x2 + p - x1) % p) ((y2 + p - y1) * (x1 + p - x3) % p)))
noncomputable def rowOK (p x1 y1 : Nat) (l : List (Nat × Nat)) : List (Nat × Nat) → Bool :=
  List.rec (motive := fun _ => List (Nat × Nat) → Bool) (fun _ => true) (fun q _ ih m => match m with
    | [] => true
    | r :: m => pairOK p x1 y1 q r && ih m) l
end Go.Proofs.YtbfcccoeekonlaaDoor
end

section
/-
  The points of the greatest of the small curves: any two have the sum that their places say (checked one by one).
-/
namespace Go.Proofs.YtbfcccoeekonlaaDoor
end Go.Proofs.YtbfcccoeekonlaaDoor
end

section
/-
  What the checks of the tables say.
-/
namespace Go.Proofs.YtbfcccoeekonlaaDoor
end Go.Proofs.YtbfcccoeekonlaaDoor
end

section
/-
  The small curves: their points, by their places.
-/
namespace Go.Proofs.YtbfcccoeekonlaaDoor
open Go.Sx

/-- Of a point by its place. -/
structure OneF (p b n : Nat) (q r t : Nat × Nat) (j : Nat) : Prop where
  lx : q.1 < p
  ly : q.2 < p
  y0 : 0 < q.2
  on : q.2 * q.2 % p = rhsN p 0 b q.1
  nx : r.1 = q.1
  ny : r.2 = p - q.2
  d0 : (q.2 + q.2) % p ≠ 0
  dx : (t.1 + q.1 + q.1) * ((q.2 + q.2) * (q.2 + q.2)) % p = (3 * q.1 * q.1) * (3 * q.1 * q.1) % p
  dy : (t.2 + q.2) * (q.2 + q.2) % p = 3 * q.1 * q.1 * (q.1 + p - t.1) % p
  rt : rhsN p 0 b q.1 ^ (p / 4 + 1) % p = q.2 ∨ rhsN p 0 b q.1 ^ (p / 4 + 1) % p = p - q.2
  gc : Nat.gcd j n = 1
end Go.Proofs.YtbfcccoeekonlaaDoor
end

section
/-
  Small curves: their points by number; lifting: reckoned by the kernel. (Laid by program.)
-/
namespace Go.Proofs.YtbfcccoeekonlaaDoor
open Go.Sx
set_option maxRecDepth 100000
structure isCv (i P A B N X Y : Nat) (F : Bool) : Prop where
  lt : i < 8
  p : P % M256 = cP i
  a : A % M256 = 0
  b : B % M256 = cB i
  n : N % M256 = cN i
  x : X % M256 = cX i
  y : Y % M256 = cY i
  f : F = false
def liftY (m A B x : Nat) (odd : Bool) : Nat := if ((rhsN m A B x ^ (m / 4 + 1) % m % 2 == 1) != odd) = true then (0 + m - rhsN m A B x ^ (m / 4 + 1) % m) % m else rhsN m A B x ^ (m / 4 + 1) % m
structure liftOK (m A B x : Nat) (odd : Bool) : Prop where
  par : (liftY m A B x odd % 2 == 1) = odd
  on : liftY m A B x odd * liftY m A B x odd % m = rhsN m A B x
def cMultS' : FSpec := specA [.str pCv, .str [.u], .str pPt] cMultC cMultG
def cPick : FSpec := specII (fun a b => [i64ok a, 0 < b ∧ b ≤ 1048576]) pickedG
end Go.Proofs.YtbfcccoeekonlaaDoor
end

section
/-
  Package sign: its steps: reckoned by the kernel. (Laid by program.)
-/
namespace Go.Proofs.YtbfcccoeekonlaaDoor
open Go.Sx
set_option maxRecDepth 100000
def secB (n d : Nat) : Bool := !(d % M256 == 0) && decide (d % M256 < n % M256)
def secG (n d : Nat) : SV := .one (sB (secB n d))
def ckC : List (List At) → List Prop
  | [[.u P, .u A, .u B, .u N, .u X, .u Y, .b F]] => [goodP (P % M256) (A % M256) (B % M256) (N % M256) (red X Y F)]
  | _ => [False]
def ckG : List (List At) → SV
  | [[.u _, .u _, .u _, .u _, .u _, .u _, .b _]] => .one (sI .i64 0)
  | _ => .tup []
def lookC : List (List At) → List Prop
  | [[.u P, .u A, .u B, .u N, .u X, .u Y, .b F], [.u _]] => [goodP (P % M256) (A % M256) (B % M256) (N % M256) (red X Y F)]
  | _ => [False]
def lookG : List (List At) → SV
  | [[.u _, .u _, .u _, .u N, .u _, .u _, .b _], [.u d]] => .one (sI .i64 (if secB N d = true then 0 else 6))
  | _ => .tup []
def pntC : List (List At) → List Prop
  | [[.u P, .u A, .u B, .u N, .u X, .u Y, .b F], [.u d]] => [goodP (P % M256) (A % M256) (B % M256) (N % M256) (red X Y F), secB N d = true, mulOK (P % M256) (A % M256) (d % M256) (red X Y F)]
  | _ => [False]
def pntG : List (List At) → SV
  | [[.u P, .u A, .u _, .u _, .u X, .u Y, .b F], [.u d]] => .tup [ptS (cmulR (P % M256) (A % M256) (d % M256) (red X Y F) 256), sI .i64 0]
  | _ => .tup []
structure bothOK (P A B N : Nat) (b : Pt) (k : Nat) (p : Pt) (l : Nat) : Prop where
  g : goodP P A B N b
  p0 : onP P A B p
  m1 : mulOK P A k b
  m2 : mulOK P A l p
  i1 : inM (cmulR P A k b 256) ∧ onP P A B (cmulR P A k b 256)
  i2 : inM (cmulR P A l p 256) ∧ onP P A B (cmulR P A l p 256)
  s : sumOK P A (cmulR P A k b 256) (cmulR P A l p 256)
def cCk : FSpec := specA [.str pCv] ckC ckG
def cLook : FSpec := specA [.str pCv, .str [.u]] lookC lookG
def cPnt : FSpec := specA [.str pCv, .str [.u]] pntC pntG
def cxSec : Cx := [(24, specUU cmpG)]
def cxCk : Cx := [(15, cBe)]
def cxLook : Cx := [(13, cCk), (14, specUU secG)]
def cxPnt : Cx := [(8, cLook), (9, cMultS')]
-- VC vc_isSecret HASH 1e57fcc54e94d1cc
theorem vc_isSecret (n d : Nat) :
    Owes Tryd.prog cxSec [] 100 Tryd.f14 [sU n, sU d] (secG n d) =
    (let x1 : Bool := !Go.Sx.conj [d % Go.Sx.M256 == (0 : Nat)]; (x1 = Bool.true → x1 = Bool.true) ∧ (x1 = Bool.true → x1 = Bool.true) ∧ (x1 = Bool.true → x1 = Bool.true) ∧ (x1 = Bool.true → x1 = Bool.true) ∧ (x1 && Decidable.decide (Go.Sx.cmpN d n < (0 : Int))) = secB n d) := by kernel_rfl
-- END VC
-- VC vc_cCheck HASH 79ac32e5cb22b9c9
theorem vc_cCheck (P A B N X Y : Nat) (F : Bool) :
    Owes Tryd.prog cxCk [] 100 Tryd.f13 [sCv P A B N X Y F] (ckG [[.u P, .u A, .u B, .u N, .u X, .u Y, .b F]]) =
    (let x1 : Nat := P % Go.Sx.M256; x1 = x1 ∧ goodP x1 (A % Go.Sx.M256) (B % Go.Sx.M256) (N % Go.Sx.M256) (red X Y F) ∧ (0 : Int) = (0 : Int)) := by kernel_rfl
-- END VC
-- VC vc_look HASH 99d25d180b74101b
theorem vc_look (P A B N X Y d : Nat) (F : Bool) :
    Owes Tryd.prog cxLook [] 100 Tryd.f8 [sCv P A B N X Y F, sU d] (lookG [[.u P, .u A, .u B, .u N, .u X, .u Y, .b F], [.u d]]) =
    (let x1 : Int := if secB N d = Bool.true then (0 : Int) else (6 : Int); goodP (P % Go.Sx.M256) (A % Go.Sx.M256) (B % Go.Sx.M256) (N % Go.Sx.M256) (red X Y F) ∧ (((0 : Int) != (0 : Int)) = Bool.true → (0 : Int) = x1) ∧ (((0 : Int) != (0 : Int)) = Bool.false → ((!secB N d) = Bool.true → (6 : Int) = x1) ∧ ((!secB N d) = Bool.false → (0 : Int) = x1))) := by kernel_rfl
-- END VC
-- VC vc_sPoint HASH 7ec7dda309d8ed4d
theorem vc_sPoint (P A B N X Y d : Nat) (F : Bool) :
    Owes Tryd.prog cxPnt [] 100 Tryd.f6 [sCv P A B N X Y F, sU d] (pntG [[.u P, .u A, .u B, .u N, .u X, .u Y, .b F], [.u d]]) =
    (let x1 : Nat := P % Go.Sx.M256; let x2 : Nat := A % Go.Sx.M256; let x3 : Nat := B % Go.Sx.M256; let x4 : Int := if secB N d = Bool.true then (0 : Int) else (6 : Int); let x5 : Nat := d % Go.Sx.M256; let x6 : Nat := (cmulR x1 x2 x5 (red X Y F) (256 : Nat)).fst % Go.Sx.M256; let x7 : Nat := (cmulR x1 x2 x5 (red X Y F) (256 : Nat)).snd.fst % Go.Sx.M256; let x8 : Bool := (cmulR x1 x2 x5 (red X Y F) (256 : Nat)).snd.snd; goodP x1 x2 x3 (N % Go.Sx.M256) (red X Y F) ∧ ((x4 != (0 : Int)) = Bool.true → ((0 : Nat) = x6 ∧ (0 : Nat) = x7 ∧ Bool.false = x8 ∧ True) ∧ x4 = (0 : Int)) ∧ ((x4 != (0 : Int)) = Bool.false → goodP x1 x2 x3 (N % Go.Sx.M256) (red X Y F) ∧ onP x1 x2 x3 (red X Y F) ∧ mulOK x1 x2 x5 (red X Y F) ∧ (x6 = x6 ∧ x7 = x7 ∧ x8 = x8 ∧ True) ∧ (0 : Int) = (0 : Int))) := by kernel_rfl
-- END VC
end Go.Proofs.YtbfcccoeekonlaaDoor
end

section
/-
  The small curves: the sum of two points has the place that is the sum of theirs.
-/
namespace Go.Proofs.YtbfcccoeekonlaaDoor
open Go.Sx

end Go.Proofs.YtbfcccoeekonlaaDoor
end

section
/-
  Small curves: points so often, points by number, lifting.
-/
namespace Go.Proofs.YtbfcccoeekonlaaDoor
open Go.Sx

end Go.Proofs.YtbfcccoeekonlaaDoor
end

section
/-
  Package sign: its steps.
-/
namespace Go.Proofs.YtbfcccoeekonlaaDoor
open Go.Sx

theorem beq_conj1 (a b : Nat) : conj [a == b] = (a == b) := by
  rw [conj_all]
  simp
theorem cmp_below {a b : Nat} : decide (cmpN a b < 0) = decide (a % M256 < b % M256) := by
  unfold cmpN
  split
  · rename_i h; rw [decide_eq_true h]; rfl
  · rename_i h
    rw [decide_eq_false h]
    split <;> rfl
theorem ok_isSecret : ∀ n d : Nat, Owes Tryd.prog cxSec [] 100 Tryd.f14 [sU n, sU d] (secG n d) := by
  intro n d
  rw [vc_isSecret]
  intro x1
  refine ⟨id, id, id, id, ?_⟩
  simp only [x1, beq_conj1, cmp_below]
  rfl
theorem ok_cCheck : ∀ (ls : List (List At)) (vs : List (Option Addr)), Ok (ckC ls) → Owes Tryd.prog cxCk [] 100 Tryd.f13 (mkArgs [.str pCv] ls vs) (ckG ls) := by
  intro ls vs hc
  unfold ckC at hc
  split at hc
  · rename_i P A B N X Y F
    have h : Owes Tryd.prog cxCk [] 100 Tryd.f13 [sCv P A B N X Y F] (ckG [[.u P, .u A, .u B, .u N, .u X, .u Y, .b F]]) := by
      rw [vc_cCheck]
      exact ⟨rfl, hc.1, rfl⟩
    exact h
  · exact hc.1.elim
theorem ok_look : ∀ (ls : List (List At)) (vs : List (Option Addr)), Ok (lookC ls) → Owes Tryd.prog cxLook [] 100 Tryd.f8 (mkArgs [.str pCv, .str [.u]] ls vs) (lookG ls) := by
  intro ls vs hc
  unfold lookC at hc
  split at hc
  · rename_i P A B N X Y F d
    have h : Owes Tryd.prog cxLook [] 100 Tryd.f8 [sCv P A B N X Y F, sU d] (lookG [[.u P, .u A, .u B, .u N, .u X, .u Y, .b F], [.u d]]) := by
      rw [vc_look]
      intro x1
      refine ⟨hc.1, fun h => (by cases h), fun _ => ⟨fun h => ?_, fun h => ?_⟩⟩
      · have e : secB N d = false := by simpa using h
        simp only [x1]
        rw [if_neg (by rw [e]; exact Bool.false_ne_true)]
      · have e : secB N d = true := by simpa using h
        simp only [x1]
        rw [if_pos e]
    exact h
  · exact hc.1.elim
theorem ok_sPoint : ∀ (ls : List (List At)) (vs : List (Option Addr)), Ok (pntC ls) → Owes Tryd.prog cxPnt [] 100 Tryd.f6 (mkArgs [.str pCv, .str [.u]] ls vs) (pntG ls) := by
  intro ls vs hc
  unfold pntC at hc
  split at hc
  · rename_i P A B N X Y F d
    have h : Owes Tryd.prog cxPnt [] 100 Tryd.f6 [sCv P A B N X Y F, sU d] (pntG [[.u P, .u A, .u B, .u N, .u X, .u Y, .b F], [.u d]]) := by
      rw [vc_sPoint]
      obtain ⟨h1, h2, h3, _⟩ := hc
      intro x1 x2 x3 x4 x5 x6 x7 x8
      have E4 : x4 = 0 := if_pos h2
      rw [E4]
      exact ⟨h1, fun h => (by cases h), fun _ => ⟨h1, h1.on, h3, ⟨rfl, rfl, rfl, trivial⟩, rfl⟩⟩
    exact h
  · exact hc.1.elim
theorem card_isSecret : FnOK Tryd.prog 14 (specUU secG) :=
  FnOK_UU (CxOK_cons card_Cmp CxOK_nil) (iv := []) (N := 100) Tryd.func14 (by kernel_rfl) (by kernel_rfl) (fun _ _ => bnd_one (bnd_B _)) ok_isSecret
theorem card_cCheck : FnOK Tryd.prog 13 cCk :=
  FnOK_A (CxOK_cons card_be CxOK_nil) (iv := fun _ => []) (N := 100) Tryd.func13 (by kernel_rfl) (by kernel_rfl) (fun ls => by unfold ckG; split; exact bnd_one (bnd_I _ _); exact bnd_none) ok_cCheck
theorem card_look : FnOK Tryd.prog 8 cLook :=
  FnOK_A (CxOK_cons card_cCheck (CxOK_cons card_isSecret CxOK_nil)) (iv := fun _ => []) (N := 100) Tryd.func8 (by kernel_rfl) (by kernel_rfl) (fun ls => by unfold lookG; split; exact bnd_one (bnd_I _ _); exact bnd_none) ok_look
theorem card_sPoint : FnOK Tryd.prog 6 cPnt :=
  FnOK_A (CxOK_cons card_look (CxOK_cons card_cMult CxOK_nil)) (iv := fun _ => []) (N := 100) Tryd.func6 (by kernel_rfl) (by kernel_rfl) (fun ls => by
    unfold pntG
    split
    · exact bnd_two (bnd_pt _) (bnd_I _ _)
    · exact bnd_none) ok_sPoint
end Go.Proofs.YtbfcccoeekonlaaDoor
end
