/-
  Texts: P26, P27, P30, P31, P32, P33, P34, P35, P36, Dgs, DgA, V60, P100.
-/
import Derived.Test.YteimeidpcgebkaaM1
import Derived.Test.YteimeidpcgebkaaM2
import Derived.Test.YteimeidpcgebkaaM3
import Derived.Test.YteimeidpcgebkaaM4
import Derived.Test.YteimeidpcgebkaaM5
import Derived.Test.YteimeidpcgebkaaM6
import Derived.Test.YteimeidpcgebkaaM7
import Derived.Test.YteimeidpcgebkaaM8
import Derived.Test.YteimeidpcgebkaaM9
import Derived.Test.YteimeidpcgebkaaM10
import Derived.Test.YteimeidpcgebkaaProg
section
namespace Go.Proofs.Yteimeidpcgebkaa
open Go.Sx
theorem dig_core (r X b : Nat) (bX : X < 18446744073709551616) (hrb : r % M256 < b % M256) (hbt : M256 ≤ 2 * (b % M256)) :
    ∃ g y : Nat, guessN (limb r 3) (limb r 2) (limb b 3) = (g : Int) ∧ g < 18446744073709551616 ∧ y ≤ 2 ∧ 0 < limb b 3 ∧
      IntKind.u64.wrap (limb r 3 - IntKind.u64.wrap (((b % M256 * g / M256 : Nat) : Int) + if join (X : Int) (limb r 0) (limb r 1) (limb r 2) % M256 < b % M256 * g % M256 then 1 else 0)) = ((digAt r (X : Int) b y / M256 % 18446744073709551616 : Nat) : Int) ∧
      (join (X : Int) (limb r 0) (limb r 1) (limb r 2) % M256 + M256 - b % M256 * g % M256) % M256 = digAt r (X : Int) b y % M256 ∧
      (∀ e, e ≤ 2 → e ≠ 0 → IntKind.u64.wrap (((digAt r (X : Int) b e / M256 % 18446744073709551616 : Nat) : Int) + ((digAt r (X : Int) b e % M256 + b % M256) / M256 : Nat)) = ((digAt r (X : Int) b (e - 1) / M256 % 18446744073709551616 : Nat) : Int) ∧ digAt r (X : Int) b e + b % M256 = digAt r (X : Int) b (e - 1) ∧ digAt r (X : Int) b e / M256 % 18446744073709551616 ≠ 0) ∧
      digAt r (X : Int) b 0 / M256 % 18446744073709551616 = 0 ∧ digAt r (X : Int) b 0 % M256 = digR r (X : Int) % (b % M256) := by
  obtain ⟨r0, h0, b0⟩ := limb_is r 0
  obtain ⟨r1, h1, b1⟩ := limb_is r 1
  obtain ⟨r2, h2, b2⟩ := limb_is r 2
  obtain ⟨r3, h3, b3⟩ := limb_is r 3
  obtain ⟨y0, k0, c0⟩ := limb_is b 0
  obtain ⟨y1, k1, c1⟩ := limb_is b 1
  obtain ⟨y2, k2, c2⟩ := limb_is b 2
  obtain ⟨y3, k3, c3⟩ := limb_is b 3
  have hA := horner_is r r0 r1 r2 r3 h0 h1 h2 h3
  have hB := horner_is b y0 y1 y2 y3 k0 k1 k2 k3
  have hBM : b % M256 < M256 := Nat.mod_lt _ (by rw [M256_eq]; decide)
  have hT : ∀ e, digAt r (X : Int) b e = M256 * 18446744073709551616 + digR r (X : Int) % (b % M256) - e * (b % M256) := fun e => rfl
  have hR : digR r (X : Int) = r % M256 * 18446744073709551616 + X := by unfold digR; rw [Int.toNat_natCast]
  have hJ : join (X : Int) (limb r 0) (limb r 1) (limb r 2) % M256 = ((r2 * 18446744073709551616 + r1) * 18446744073709551616 + r0) * 18446744073709551616 + X := by
    rw [h0, h1, h2, join_nat, M_val]
    omega
  rw [h0, h1, h2] at hJ
  rw [h0, h1, h2, h3, k3, guess_nat, hJ]
  rw [M_val] at hA hB hBM hT hR hrb hbt
  rw [M_val]
  generalize digR r (X : Int) = R at *
  rw [hA] at hR hrb
  obtain ⟨n1, n2, n3, n4, n5, n6, n7, n8⟩ := kn_all b0 b1 b2 c0 c1 c2 bX hB hR hrb hbt
  obtain ⟨x2, E2⟩ : ∃ v, v = b % 115792089237316195423570985008687907853269984665640564039457584007913129639936 := ⟨_, rfl⟩
  rw [← E2] at hB hBM hT hrb hbt n1 n5 ⊢
  obtain ⟨q1, q2, q3⟩ := knuth (W := 18446744073709551616) (K := 6277101735386680763835789423207666416102355444464034512896) (r3 := r3) (r2 := r2) (rr := (r1 * 18446744073709551616 + r0) * 18446744073709551616 + X) (b3 := y3) (bl := (y2 * 18446744073709551616 + y1) * 18446744073709551616 + y0) (B := x2) (R := R) (g := gN r3 r2 y3) n1 n2 n3 n4 n5 n6 b2 rfl
  generalize gN r3 r2 y3 = g at *
  have hBp : 0 < x2 := by clear hT; omega
  have dm := Nat.div_add_mod R x2
  have ml := Nat.mod_lt R hBp
  obtain ⟨x3, E3⟩ : ∃ v, v = R / x2 := ⟨_, rfl⟩
  rw [← E3] at dm q1 q2
  have D3 := Nat.div_add_mod (x2 * g) 115792089237316195423570985008687907853269984665640564039457584007913129639936
  have L3 := Nat.mod_lt (x2 * g) (show 0 < 115792089237316195423570985008687907853269984665640564039457584007913129639936 by decide)
  have H6 : x2 * g / 115792089237316195423570985008687907853269984665640564039457584007913129639936 < 18446744073709551616 := by
    rw [Nat.div_lt_iff_lt_mul (by decide), Nat.mul_comm 18446744073709551616]
    exact Nat.mul_lt_mul'' hBM q3
  have hG : x2 * g = x2 * x3 + (g - x3) * x2 := by
    rw [Nat.mul_comm (g - x3), ← Nat.mul_add]
    exact congrArg (x2 * ·) (by clear hT; omega)
  have hY : (g - x3) * x2 ≤ 2 * 115792089237316195423570985008687907853269984665640564039457584007913129639936 := Nat.mul_le_mul (by clear hT; omega) (Nat.le_of_lt hBM)
  obtain ⟨t1, t2⟩ := top_of (r3 := r3) (x6 := ((r2 * 18446744073709551616 + r1) * 18446744073709551616 + r0) * 18446744073709551616 + X) (x7 := x2 * g % 115792089237316195423570985008687907853269984665640564039457584007913129639936) (hi := x2 * g / 115792089237316195423570985008687907853269984665640564039457584007913129639936) (mrem := R % x2) (Y := (g - x3) * x2) (P := x2 * x3) (G := x2 * g) (by rw [dm, n7]) hG D3 L3 n8 H6 hY (Nat.lt_trans ml hBM) b3
  have step : ∀ e, e ≤ 2 → e ≠ 0 → IntKind.u64.wrap (((digAt r (X : Int) b e / 115792089237316195423570985008687907853269984665640564039457584007913129639936 % 18446744073709551616 : Nat) : Int) + ((digAt r (X : Int) b e % 115792089237316195423570985008687907853269984665640564039457584007913129639936 + x2) / 115792089237316195423570985008687907853269984665640564039457584007913129639936 : Nat)) = ((digAt r (X : Int) b (e - 1) / 115792089237316195423570985008687907853269984665640564039457584007913129639936 % 18446744073709551616 : Nat) : Int) ∧ digAt r (X : Int) b e + x2 = digAt r (X : Int) b (e - 1) ∧ digAt r (X : Int) b e / 115792089237316195423570985008687907853269984665640564039457584007913129639936 % 18446744073709551616 ≠ 0 := by
    intro e he h0
    have := top_step (mrem := R % x2) (B := x2) (e := e) ml hBM he h0
    rw [← hT, ← hT] at this
    exact this
  obtain ⟨u1, u2⟩ := top_zero (mrem := R % x2) (B := x2) ml hBM
  rw [← hT] at u1 u2 t1 t2
  have y3p : 0 < y3 := by clear hT; omega
  have g1 : g - x3 ≤ 2 := by clear hT; omega
  exact ⟨g, g - x3, rfl, q3, g1, Int.ofNat_lt.2 y3p, t1, t2, step, u1, u2⟩
theorem wrap_sub (a v : Int) : IntKind.u64.wrap (a - IntKind.u64.wrap v) = IntKind.u64.wrap (a - v) := by
  simp only [wrap_mod]
  omega
theorem carry_one {v x M : Nat} (hv : v < M) (hx : x < M) : (M ≤ v + x → (v + x) / M = 1) ∧ (¬ M ≤ v + x → (v + x) / M = 0) := by
  refine ⟨fun h => ?_, fun h => Nat.div_eq_of_lt (by omega)⟩
  rw [show v + x = (v + x - M) + M by omega, Nat.add_div_right _ (by omega), Nat.div_eq_of_lt (by omega)]
theorem ok_bring : ∀ (r : Nat) (x : Int) (b : Nat), Ok (digC r x b) → Owes Try.prog cxBring [(5, .inv (invBring r x b))] 100 Try.f89 [sU r, sI .u64 x, sU b] (bringG r x b) := by
  intro r x b hc
  obtain ⟨hx, hrb, hbt, _⟩ := hc
  rw [vc_bring]
  obtain ⟨X, rfl⟩ := Int.eq_ofNat_of_zero_le hx.1
  have bX : X < 18446744073709551616 := Int.ofNat_lt.1 hx.2
  have hM : 0 < M256 := by rw [M256_eq]; decide
  have hbM := Nat.mod_lt b hM
  obtain ⟨g, y, eg, gw, hy, hb3, t1, t2, step, u1, u2⟩ := dig_core r X b bX hrb hbt
  rw [eg]
  intro x1 x2 x3 x4 x5 x6
  have E1 : x1 = (g : Int) := rfl
  have T : x1.toNat = g := by rw [E1]; exact Int.toNat_natCast _
  have E4 : x4 = b % M256 * g := by simp only [x4, x3, T]
  have E6 : x6 = b % M256 * g % M256 := by simp only [x6, E4]
  rw [wrap_sub, ← E6, ← E4] at t1
  rw [← E6] at t2
  have hl := fun n i => (⟨limb_nonneg n i, limb_lt n i⟩ : (0 : Int) ≤ limb n i ∧ limb n i < 18446744073709551616)
  have hbB : ∀ v : Nat, (v + b) % M256 = (v + b % M256) % M256 := fun v => by rw [Nat.add_mod v b, Nat.add_mod v (b % M256), Nat.mod_mod]
  have hrem : digR r (X : Int) % (b % M256) < M256 := Nat.lt_trans (Nat.mod_lt _ (by omega)) hbM
  refine ⟨hl r 3, hl r 2, hl b 3, hb3, hx, hl r 0, hl r 1, hl r 2, by rw [E1]; exact word_nat gw, fun _ => rfl, y, hy, rfl, rfl, rfl, t1, t2, rfl, rfl, rfl, rfl, fun e he => ⟨fun c => ?_, fun c => ?_⟩⟩
  · have he0 : e ≠ 0 := by
      rintro rfl
      rw [u1] at c
      exact absurd c (by decide)
    obtain ⟨s1, s2, s3⟩ := step e he he0
    obtain ⟨k1, k2⟩ := carry_one (Nat.mod_lt (digAt r (X : Int) b e) hM) hbM
    have hs : (digAt r (X : Int) b e + b) % M256 = digAt r (X : Int) b (e - 1) % M256 := by rw [hbB, s2]
    refine ⟨fun h => ⟨e - 1, by omega, rfl, rfl, rfl, ?_, hs, rfl, rfl, rfl, rfl, by omega⟩, fun h => ⟨e - 1, by omega, rfl, rfl, rfl, ?_, hs, rfl, rfl, rfl, rfl, by omega⟩⟩
    · rw [k1 (of_decide_eq_true h)] at s1
      exact s1
    · rw [k2 (of_decide_eq_false h), Int.natCast_zero, Int.add_zero, wrap_id (word_nat (Nat.mod_lt _ (by decide)))] at s1
      exact s1
  · have he0 : e = 0 := by
      refine Classical.byContradiction fun h => ?_
      obtain ⟨s1, s2, s3⟩ := step e he h
      rw [bne_eq_false_iff_eq] at c
      exact s3 (Int.ofNat.inj c)
    subst he0
    exact ⟨by rw [u2, Nat.mod_eq_of_lt hrem], trivial⟩
theorem less_step (a P o : Int) (ha : 0 ≤ a ∧ a < 18446744073709551616) (hP : 0 ≤ P ∧ P ≤ 340282366920938463426481119284349108225) (ho : 0 ≤ o ∧ o < 18446744073709551616) :
    (0 ≤ IntKind.u64.wrap (IntKind.u64.wrap (P / 18446744073709551616 + (P % 18446744073709551616 + o + 0) / 18446744073709551616) + -((a - (P % 18446744073709551616 + o + 0) % 18446744073709551616 - 0) / 18446744073709551616)) ∧ IntKind.u64.wrap (IntKind.u64.wrap (P / 18446744073709551616 + (P % 18446744073709551616 + o + 0) / 18446744073709551616) + -((a - (P % 18446744073709551616 + o + 0) % 18446744073709551616 - 0) / 18446744073709551616)) < 18446744073709551616) ∧
    a + 18446744073709551616 * IntKind.u64.wrap (IntKind.u64.wrap (P / 18446744073709551616 + (P % 18446744073709551616 + o + 0) / 18446744073709551616) + -((a - (P % 18446744073709551616 + o + 0) % 18446744073709551616 - 0) / 18446744073709551616)) = (a - (P % 18446744073709551616 + o + 0) % 18446744073709551616 - 0) % 18446744073709551616 + P + o ∧
    (0 ≤ (a - (P % 18446744073709551616 + o + 0) % 18446744073709551616 - 0) % 18446744073709551616 ∧ (a - (P % 18446744073709551616 + o + 0) % 18446744073709551616 - 0) % 18446744073709551616 < 18446744073709551616) ∧ 0 ≤ P % 18446744073709551616 ∧ (0 ≤ (P % 18446744073709551616 + o + 0) % 18446744073709551616 ∧ (P % 18446744073709551616 + o + 0) % 18446744073709551616 < 18446744073709551616) := by
  simp only [wrap_mod]
  refine ⟨⟨?_, ?_⟩, ?_, ⟨?_, ?_⟩, ?_, ?_, ?_⟩ <;> omega
theorem prod_bound {b q : Int} (hb : 0 ≤ b ∧ b < 18446744073709551616) (hq : 0 ≤ q ∧ q < 18446744073709551616) : 0 ≤ b * q ∧ b * q ≤ 340282366920938463426481119284349108225 := by
  obtain ⟨b, rfl⟩ := Int.eq_ofNat_of_zero_le hb.1
  obtain ⟨q, rfl⟩ := Int.eq_ofNat_of_zero_le hq.1
  rw [← Int.natCast_mul]
  have := Nat.mul_le_mul (show b ≤ 18446744073709551615 by omega) (show q ≤ 18446744073709551615 by omega)
  omega
theorem less_sum {A G r0 r1 r2 r3 o hi lo : Nat} (h : A + 115792089237316195423570985008687907853269984665640564039457584007913129639936 * o = ((((r3 * 18446744073709551616 + r2) * 18446744073709551616 + r1) * 18446744073709551616 + r0) + G)) (hG : 115792089237316195423570985008687907853269984665640564039457584007913129639936 * hi + lo = G) (hlo : lo < 115792089237316195423570985008687907853269984665640564039457584007913129639936) (hA : A < 115792089237316195423570985008687907853269984665640564039457584007913129639936) (h0 : r0 < 18446744073709551616) (h1 : r1 < 18446744073709551616) (h2 : r2 < 18446744073709551616) (h3 : r3 < 18446744073709551616) :
    (((r3 * 18446744073709551616 + r2) * 18446744073709551616 + r1) * 18446744073709551616 + r0) % 115792089237316195423570985008687907853269984665640564039457584007913129639936 = (A + 115792089237316195423570985008687907853269984665640564039457584007913129639936 - lo) % 115792089237316195423570985008687907853269984665640564039457584007913129639936 ∧ (o : Int) = (hi : Int) + if A < lo then 1 else 0 := by
  split
  · refine ⟨?_, ?_⟩ <;> omega
  · refine ⟨?_, ?_⟩ <;> omega
theorem ok_fless : ∀ (a : Nat) (q : Int) (b : Nat), Ok (flessC a q b) → Owes Try.prog cxFless [] 100 Try.f99 [sU a, sI .u64 q, sU b] (flessG a q b) := by
  intro a q b hc
  obtain ⟨hq, _⟩ := hc
  rw [vc_fless]
  have hl := fun n i => (⟨limb_nonneg n i, limb_lt n i⟩ : (0 : Int) ≤ limb n i ∧ limb n i < 18446744073709551616)
  have z : (0 : Int) ≤ 0 ∧ (0 : Int) < 18446744073709551616 := by decide
  have z1 : (0 : Int) ≤ 0 ∧ (0 : Int) ≤ 1 := by decide
  obtain ⟨o0, s0, r0, p0, l0⟩ := less_step (limb a 0) (limb b 0 * q) 0 (hl a 0) (prod_bound (hl b 0) hq) z
  intro x1 x2 x3 x4 x5 x6 x7 x8
  have O0 : 0 ≤ x8 ∧ x8 < 18446744073709551616 := o0
  have S0 : limb a 0 + 18446744073709551616 * x8 = x7 % 18446744073709551616 + x1 + 0 := s0
  have R0 : 0 ≤ x7 % 18446744073709551616 ∧ x7 % 18446744073709551616 < 18446744073709551616 := r0
  have L0 : 0 ≤ x4 ∧ x4 < 18446744073709551616 := l0
  obtain ⟨o1, s1, r1, p1, l1⟩ := less_step (limb a 1) (limb b 1 * q) x8 (hl a 1) (prod_bound (hl b 1) hq) O0
  intro x9 x10 x11 x12 x13 x14
  have O1 : 0 ≤ x14 ∧ x14 < 18446744073709551616 := o1
  have S1 : limb a 1 + 18446744073709551616 * x14 = x13 % 18446744073709551616 + x5 + x8 := s1
  have R1 : 0 ≤ x13 % 18446744073709551616 ∧ x13 % 18446744073709551616 < 18446744073709551616 := r1
  have L1 : 0 ≤ x10 ∧ x10 < 18446744073709551616 := l1
  obtain ⟨o2, s2, r2, p2, l2⟩ := less_step (limb a 2) (limb b 2 * q) x14 (hl a 2) (prod_bound (hl b 2) hq) O1
  intro x15 x16 x17 x18 x19 x20
  have O2 : 0 ≤ x20 ∧ x20 < 18446744073709551616 := o2
  have S2 : limb a 2 + 18446744073709551616 * x20 = x19 % 18446744073709551616 + x11 + x14 := s2
  have R2 : 0 ≤ x19 % 18446744073709551616 ∧ x19 % 18446744073709551616 < 18446744073709551616 := r2
  have L2 : 0 ≤ x16 ∧ x16 < 18446744073709551616 := l2
  obtain ⟨o3, s3, r3, p3, l3⟩ := less_step (limb a 3) (limb b 3 * q) x20 (hl a 3) (prod_bound (hl b 3) hq) O2
  intro x21 x22 x23 x24 x25 x26 x27 x28 x29 x30
  have L3 : 0 ≤ x22 ∧ x22 < 18446744073709551616 := l3
  have R3 : 0 ≤ x27 ∧ x27 < 18446744073709551616 := r3
  have S3 : limb a 3 + 18446744073709551616 * IntKind.u64.wrap (IntKind.u64.wrap (x17 / 18446744073709551616 + x21 / 18446744073709551616) + -(x26 / 18446744073709551616)) = x27 + x17 + x20 := s3
  have O3 : 0 ≤ IntKind.u64.wrap (IntKind.u64.wrap (x17 / 18446744073709551616 + x21 / 18446744073709551616) + -(x26 / 18446744073709551616)) ∧ IntKind.u64.wrap (IntKind.u64.wrap (x17 / 18446744073709551616 + x21 / 18446744073709551616) + -(x26 / 18446744073709551616)) < 18446744073709551616 := o3
  have R0' : 0 ≤ x23 ∧ x23 < 18446744073709551616 := R0
  have R1' : 0 ≤ x24 ∧ x24 < 18446744073709551616 := R1
  have R2' : 0 ≤ x25 ∧ x25 < 18446744073709551616 := R2
  have S0' : limb a 0 + 18446744073709551616 * x8 = x23 + x1 + 0 := S0
  have S1' : limb a 1 + 18446744073709551616 * x14 = x24 + x5 + x8 := S1
  have S2' : limb a 2 + 18446744073709551616 * x20 = x25 + x11 + x14 := S2
  clear o0 s0 r0 l0 o1 s1 r1 l1 o2 s2 r2 l2 o3 s3 r3 l3 R0 R1 R2 S0 S1 S2
  have M : (join x23 x24 x25 x27 % M256 = (x28 + M256 - x30) % M256) ∧ IntKind.u64.wrap (IntKind.u64.wrap (x17 / 18446744073709551616 + x21 / 18446744073709551616) + -(x26 / 18446744073709551616)) = ((x29 / M256 : Nat) : Int) + if x28 < x30 then (1 : Int) else (0 : Int) := by
    have e1 : x1 = limb b 0 * q := rfl
    have e5 : x5 = limb b 1 * q := rfl
    have e11 : x11 = limb b 2 * q := rfl
    have e17 : x17 = limb b 3 * q := rfl
    have e28 : x28 = a % M256 := rfl
    have e29 : x29 = b % M256 * q.toNat := rfl
    have e30 : x30 = x29 % M256 := rfl
    generalize IntKind.u64.wrap (IntKind.u64.wrap (x17 / 18446744073709551616 + x21 / 18446744073709551616) + -(x26 / 18446744073709551616)) = o at *
    clear_value x1 x5 x8 x11 x14 x17 x20 x23 x24 x25 x27 x28 x29 x30
    obtain ⟨Q, rfl⟩ := Int.eq_ofNat_of_zero_le hq.1
    obtain ⟨w0, rfl⟩ := Int.eq_ofNat_of_zero_le R0'.1
    obtain ⟨w1, rfl⟩ := Int.eq_ofNat_of_zero_le R1'.1
    obtain ⟨w2, rfl⟩ := Int.eq_ofNat_of_zero_le R2'.1
    obtain ⟨w3, rfl⟩ := Int.eq_ofNat_of_zero_le R3.1
    obtain ⟨ov, rfl⟩ := Int.eq_ofNat_of_zero_le O3.1
    obtain ⟨a0, h0, b0⟩ := limb_is a 0
    obtain ⟨a1, h1, b1⟩ := limb_is a 1
    obtain ⟨a2, h2, b2⟩ := limb_is a 2
    obtain ⟨a3, h3, b3⟩ := limb_is a 3
    obtain ⟨y0, k0, c0⟩ := limb_is b 0
    obtain ⟨y1, k1, c1⟩ := limb_is b 1
    obtain ⟨y2, k2, c2⟩ := limb_is b 2
    obtain ⟨y3, k3, c3⟩ := limb_is b 3
    have hA := horner_is a a0 a1 a2 a3 h0 h1 h2 h3
    have hB := horner_is b y0 y1 y2 y3 k0 k1 k2 k3
    rw [Int.toNat_natCast, hB] at e29
    have e29' : x29 = ((y3 * Q * 18446744073709551616 + y2 * Q) * 18446744073709551616 + y1 * Q) * 18446744073709551616 + y0 * Q := by
      have k1 : ∀ X Y : Nat, (X * 18446744073709551616 + Y) * Q = X * Q * 18446744073709551616 + Y * Q := fun X Y => by rw [Nat.add_mul, Nat.mul_right_comm]
      rw [e29, k1, k1, k1]
    rw [h0] at S0'
    rw [h1] at S1'
    rw [h2] at S2'
    rw [h3] at S3
    rw [k0, ← Int.natCast_mul] at e1
    rw [k1, ← Int.natCast_mul] at e5
    rw [k2, ← Int.natCast_mul] at e11
    rw [k3, ← Int.natCast_mul] at e17
    have hMl : x29 % M256 < M256 := Nat.mod_lt _ (by rw [M256_eq]; decide)
    have hMd := Nat.div_add_mod x29 M256
    have hAl : x28 < M256 := by rw [e28]; exact Nat.mod_lt _ (by rw [M256_eq]; decide)
    rw [hA] at e28
    rw [← e30] at hMl hMd
    rw [join_nat]
    rw [M_val] at hMl hMd hAl ⊢
    refine less_sum ?_ hMd hMl hAl (Int.ofNat_lt.1 R0'.2) (Int.ofNat_lt.1 R1'.2) (Int.ofNat_lt.1 R2'.2) (Int.ofNat_lt.1 R3.2)
    rw [e28, e29']
    clear e28 e29 e29' e30 hMl hMd hAl hA hB hl O0 O1 O2 O3 L0 L1 L2 L3 p0 p1 p2 p3 R0' R1' R2' R3
    generalize y0 * Q = t0 at *
    generalize y1 * Q = t1 at *
    generalize y2 * Q = t2 at *
    generalize y3 * Q = t3 at *
    exact Nat.le_antisymm (by omega) (by omega)
  exact ⟨hl b 0, hq, p0, z.1, z1, hl a 0, L0, z1, hl b 1, hq, p1, O0.1, z1, hl a 1, L1, z1, hl b 2, hq, p2, O1.1, z1, hl a 2, L2, z1, hl b 3, hq, p3, O2.1, z1, hl a 3, L3, z1, ⟨R0', R1', R2', R3, M.1, trivial⟩, M.2⟩
theorem card_fless : FnOK Try.prog 99 (specUWU flessC flessG) :=
  FnOK_UWU (CxOK_cons card_Mul64 (CxOK_cons card_Add64 (CxOK_cons card_Sub64 CxOK_nil))) (iv := fun _ _ _ => []) (N := 100) Try.func99 (by kernel_rfl) (by kernel_rfl) (fun _ _ _ => bnd_two (bnd_U _) (bnd_I _ _)) ok_fless
theorem card_bring : FnOK Try.prog 89 (specUWU digC bringG) :=
  FnOK_UWU (CxOK_cons card_fguess (CxOK_cons card_fless (CxOK_cons card_Add CxOK_nil))) (iv := fun r x b => [(5, .inv (invBring r x b))]) (N := 100) Try.func89 (by kernel_rfl) (by kernel_rfl) (fun _ _ _ => bnd_one (bnd_U _)) ok_bring
theorem card_rest : FnOK Try.prog 81 (specUUU restC restG) :=
  FnOK_UUU (CxOK_cons card_Mul (CxOK_cons card_bring CxOK_nil)) (iv := fun _ _ _ => []) (N := 100) Try.func81 (by kernel_rfl) (by kernel_rfl) (fun _ _ _ => bnd_one (bnd_U _)) ok_rest
theorem ok_bit : ∀ n : Int, Ok (bitC n) → Owes Try.prog Cx.none [] 100 Try.f83 [sI .i64 n] (bitG n) := by
  intro n hc
  obtain ⟨hn, _⟩ := hc
  rw [vc_bit]
  obtain ⟨p, t, hnp, ht, hp, y1, y2, y3, y4⟩ := n_parts (n := n) ⟨hn.1, by omega⟩
  have hp3 : p ≤ 3 := by omega
  have ht63 : 2 ^ t < 18446744073709551616 := Nat.lt_of_le_of_lt (Nat.pow_le_pow_right (by decide) ht) (by decide)
  intro x1 x2 x3 x4 x5 x6 x7
  have E1 : x1 = (p : Int) := y1
  have E2 : x2 = p := by simp only [x2, E1]; exact Int.toNat_natCast _
  have E3 : x3 = ((2 ^ t : Nat) : Int) := by
    simp only [x3, y2]
    rw [two_min t (by omega), Int.one_mul]
    exact wrap_id (word_nat ht63)
  have w := word_nat ht63
  rw [y2, hnp, Int.toNat_natCast, two_split]
  have hE : ∀ i : Nat, (if i = x2 then x3 else (0 : Int)) = ((if i = p then 2 ^ t else 0 : Nat) : Int) := fun i => by
    rw [E2, E3]
    split <;> rfl
  have hb : ∀ i : Nat, (0 : Int) ≤ ((if i = p then 2 ^ t else 0 : Nat) : Int) ∧ ((if i = p then 2 ^ t else 0 : Nat) : Int) < 18446744073709551616 := fun i => word_nat (by split; exact ht63; decide)
  have E4 : x4 = ((if 0 = p then 2 ^ t else 0 : Nat) : Int) := hE 0
  have E5 : x5 = ((if 1 = p then 2 ^ t else 0 : Nat) : Int) := hE 1
  have E6 : x6 = ((if 2 = p then 2 ^ t else 0 : Nat) : Int) := hE 2
  have E7 : x7 = ((if 3 = p then 2 ^ t else 0 : Nat) : Int) := hE 3
  rw [E4, E5, E6, E7, E1, join_nat]
  refine ⟨nn _, ⟨nn _, by omega⟩, ⟨nn _, by omega⟩, hb 0, hb 1, hb 2, hb 3, ?_, trivial⟩
  refine congrArg (· % M256) ?_
  generalize 2 ^ t = d at *
  rcases (show p = 0 ∨ p = 1 ∨ p = 2 ∨ p = 3 by omega) with rfl | rfl | rfl | rfl
  · simp
  · simp
  · simp [Nat.mul_assoc]
  · simp [Nat.mul_assoc]
theorem card_bit : FnOK Try.prog 83 (specI bitC bitG) :=
  FnOK_I CxOK_nil (iv := fun _ => []) (N := 100) Try.func83 (by kernel_rfl) (by kernel_rfl) (fun _ => bnd_one (bnd_U _)) ok_bit
theorem prod_moved {a b m D E M : Nat} (hDE : D * E = M) (hM0 : 0 < M) (hEM : E < M) (hm : 0 < m) (hmD : m * D < M) : a * (b * D) % (m * D) % M * (E % M) / M % M = a * b % m % M := by
  have h1 : a * (b * D) % (m * D) = a * b % m * D := by rw [← Nat.mul_assoc, Nat.mul_mod_mul_right]
  have hr := Nat.mod_lt (a * b) hm
  have h2 : a * b % m * D < M := Nat.lt_of_le_of_lt (Nat.mul_le_mul_right D (Nat.le_of_lt hr)) hmD
  rw [h1, Nat.mod_eq_of_lt h2, Nat.mod_eq_of_lt hEM, Nat.mul_assoc, hDE, Nat.mul_div_cancel _ hM0]
theorem ok_product : ∀ a b m : Nat, Ok (prodC a b m) → Owes Try.prog cxProd [] 100 Try.f69 [sU a, sU b, sU m] (prodG a b m) := by
  intro a b m hc
  obtain ⟨ha, hb, _⟩ := hc
  rw [vc_product]
  have hMp : 0 < M256 := by rw [M256_eq]; decide
  have hM := Nat.mod_lt m hMp
  have hm0 : 0 < m % M256 := by omega
  have hl := bitsN_le (n := m % M256) (k := 256) hM
  obtain ⟨hb1, hb2⟩ := bitsN_two (m % M256) (by omega)
  have hl0 : 1 ≤ bitsN (m % M256) := by
    refine Nat.pos_of_ne_zero fun e => ?_
    rw [e] at hb1
    omega
  obtain ⟨s, hs⟩ : ∃ s, s = 256 - bitsN (m % M256) := ⟨_, rfl⟩
  have hs' : bitsN (m % M256) = 256 - s := by omega
  have hs2 : s ≤ 255 := by omega
  have hDE : 2 ^ s * 2 ^ (256 - s) = M256 := by rw [← Nat.pow_add, show s + (256 - s) = 256 by omega]; rfl
  have hD := Nat.two_pow_pos s
  rw [hs'] at hb1 hb2
  have hYM : m % M256 * 2 ^ s < M256 := Nat.lt_of_lt_of_eq (Nat.mul_lt_mul_of_pos_right hb1 hD) (by rw [Nat.mul_comm, hDE])
  have hYt : M256 ≤ 2 * (m % M256 * 2 ^ s) := by
    have := Nat.mul_le_mul_right (2 ^ s) hb2
    rw [Nat.mul_comm (2 ^ (256 - s)), hDE, Nat.mul_assoc] at this
    exact this
  intro x1 x2 x3 x4 x5 x6 x7 x8 x9
  have E1 : x1 = m % M256 := rfl
  have E2 : x2 = (s : Int) := by simp only [x2, x1, ← hs]
  have E3 : x3 = a % M256 := rfl
  have E4 : x4 = b % M256 := rfl
  have E5 : x5 = x3 * x4 % x1 % M256 := rfl
  have E6 : x6 = 2 ^ s := by simp only [x6, E2, Int.toNat_natCast]
  have E7 : x7 = m % M256 * 2 ^ s := by simp only [x7, E6]; exact (mod_mul_M m _).trans (Nat.mod_eq_of_lt hYM)
  have hbD : b % M256 * 2 ^ s < m % M256 * 2 ^ s := Nat.mul_lt_mul_of_pos_right hb hD
  have E8 : x8 = b % M256 * 2 ^ s := by simp only [x8, E6]; exact (mod_mul_M b _).trans (Nat.mod_eq_of_lt (Nat.lt_trans hbD hYM))
  have E9 : x9 = ((256 - s : Nat) : Int) := by
    simp only [x9, E2]
    rw [IntWalk.i64_in _ (by omega)]
    omega
  clear_value x9 x8 x7 x6 x5 x4 x3 x2 x1
  refine ⟨fun h => ?_, fun h => ?_⟩
  · have h0 : s = 0 := by
      have h := beq_iff_eq.1 h
      omega
    rw [h0, Nat.pow_zero, Nat.mul_one] at hYt
    exact ⟨by rw [E3, E1]; exact ha, by rw [E4, E1]; exact hb, by rw [E1]; exact hYt, rfl, trivial⟩
  · have h0 : 1 ≤ s := by
      have h := beq_eq_false_iff_ne.1 h
      omega
    have hEM : 2 ^ (256 - s) < M256 := by
      rw [M_pow]
      exact Nat.pow_lt_pow_right (by decide) (by omega)
    refine ⟨by rw [E2]; omega, by rw [E2]; omega, ?_, by rw [E8, E7]; exact hbD, by rw [E7]; exact hYt, by rw [E9]; omega, ?_, trivial⟩
    · rw [E3, E7]
      exact Nat.lt_of_lt_of_le ha (Nat.le_mul_of_pos_right _ hD)
    · rw [E9, Int.toNat_natCast, E8, E7, E5, E3, E4, E1]
      exact prod_moved hDE hMp hEM hm0 hYM
theorem card_product : FnOK Try.prog 69 (specUUU prodC prodG) :=
  FnOK_UUU (CxOK_cons card_fnoughts (CxOK_cons card_rest (CxOK_cons card_bit (CxOK_cons card_Mul CxOK_nil)))) (iv := fun _ _ _ => []) (N := 100) Try.func69 (by kernel_rfl) (by kernel_rfl) (fun _ _ _ => bnd_one (bnd_U _)) ok_product
end Go.Proofs.Yteimeidpcgebkaa
end

section
namespace Go.Proofs.Yteimeidpcgebkaa
open Go.Sx
theorem cmp_ge {a m : Nat} : cmpN a m ≥ 0 ↔ m % M256 ≤ a % M256 := by
  unfold cmpN
  rcases Nat.lt_or_ge (a % M256) (m % M256) with c | c
  · rw [if_pos c]; omega
  · rw [if_neg (by omega)]
    refine ⟨fun _ => c, fun _ => ?_⟩
    split <;> decide
theorem f_all {a b m r : Nat} :
    (m % M256 = 0 → 0 = (if fE a b m = 0 then r else 0) % M256 ∧ 7 = fE a b m) ∧
    (m % M256 ≠ 0 → (m % M256 ≤ a % M256 ∨ m % M256 ≤ b % M256) → 0 = (if fE a b m = 0 then r else 0) % M256 ∧ 6 = fE a b m) ∧
    (m % M256 ≠ 0 → a % M256 < m % M256 → b % M256 < m % M256 → r % M256 = (if fE a b m = 0 then r else 0) % M256 ∧ 0 = fE a b m) := by
  refine ⟨fun h => ?_, fun h h' => ?_, fun h h1 h2 => ?_⟩
  · have e : fE a b m = 7 := by unfold fE; rw [if_pos h]
    rw [e, if_neg (by decide)]
    exact ⟨(Nat.zero_mod _).symm, rfl⟩
  · have e : fE a b m = 6 := by unfold fE; rw [if_neg h, if_neg (by omega)]
    rw [e, if_neg (by decide)]
    exact ⟨(Nat.zero_mod _).symm, rfl⟩
  · have e : fE a b m = 0 := by unfold fE; rw [if_neg h, if_pos ⟨h1, h2⟩]
    rw [e, if_pos rfl]
    exact ⟨rfl, rfl⟩
theorem ok_fAdd : ∀ a b m : Nat, Ok (noC a b m) → Owes Try.prog cxFadd [] 100 Try.f58 [sU a, sU b, sU m] (faddG a b m) := by
  intro a b m _
  rw [vc_fAdd]
  intro x1 x2 x3 x4 x5
  obtain ⟨f1, f2, f3⟩ := f_all (a := a) (b := b) (m := m) (r := (a % M256 + b % M256) % (m % M256))
  refine ⟨fun h => ?_, fun h => ⟨fun h1 => ?_, fun h1 => ⟨fun h2 => ?_, fun h2 => ?_⟩⟩⟩
  · obtain ⟨p, q⟩ := f1 (beq_iff_eq.1 h)
    exact ⟨⟨p, trivial⟩, q⟩
  · obtain ⟨p, q⟩ := f2 (beq_eq_false_iff_ne.1 h) (.inl (cmp_ge.1 (of_decide_eq_true h1)))
    exact ⟨⟨p, trivial⟩, q⟩
  · obtain ⟨p, q⟩ := f2 (beq_eq_false_iff_ne.1 h) (.inr (cmp_ge.1 (of_decide_eq_true h2)))
    exact ⟨⟨p, trivial⟩, q⟩
  · have l1 : a % M256 < m % M256 := Nat.lt_of_not_le fun c => of_decide_eq_false h1 (cmp_ge.2 c)
    have l2 : b % M256 < m % M256 := Nat.lt_of_not_le fun c => of_decide_eq_false h2 (cmp_ge.2 c)
    obtain ⟨p, q⟩ := f3 (beq_eq_false_iff_ne.1 h) l1 l2
    exact ⟨l1, l2, ⟨p, trivial⟩, q⟩
theorem card_fAdd : FnOK Try.prog 58 (specUUU noC faddG) :=
  FnOK_UUU (CxOK_cons card_Cmp (CxOK_cons card_sum CxOK_nil)) (iv := fun _ _ _ => []) (N := 100) Try.func58 (by kernel_rfl) (by kernel_rfl) (fun _ _ _ => bnd_two (bnd_U _) (bnd_I _ _)) ok_fAdd
theorem ok_fSub : ∀ a b m : Nat, Ok (noC a b m) → Owes Try.prog cxFsub [] 100 Try.f49 [sU a, sU b, sU m] (fsubG a b m) := by
  intro a b m _
  rw [vc_fSub]
  intro x1 x2 x3 x4 x5
  obtain ⟨f1, f2, f3⟩ := f_all (a := a) (b := b) (m := m) (r := (a % M256 + m % M256 - b % M256) % (m % M256))
  refine ⟨fun h => ?_, fun h => ⟨fun h1 => ?_, fun h1 => ⟨fun h2 => ?_, fun h2 => ?_⟩⟩⟩
  · obtain ⟨p, q⟩ := f1 (beq_iff_eq.1 h)
    exact ⟨⟨p, trivial⟩, q⟩
  · obtain ⟨p, q⟩ := f2 (beq_eq_false_iff_ne.1 h) (.inl (cmp_ge.1 (of_decide_eq_true h1)))
    exact ⟨⟨p, trivial⟩, q⟩
  · obtain ⟨p, q⟩ := f2 (beq_eq_false_iff_ne.1 h) (.inr (cmp_ge.1 (of_decide_eq_true h2)))
    exact ⟨⟨p, trivial⟩, q⟩
  · have l1 : a % M256 < m % M256 := Nat.lt_of_not_le fun c => of_decide_eq_false h1 (cmp_ge.2 c)
    have l2 : b % M256 < m % M256 := Nat.lt_of_not_le fun c => of_decide_eq_false h2 (cmp_ge.2 c)
    obtain ⟨p, q⟩ := f3 (beq_eq_false_iff_ne.1 h) l1 l2
    exact ⟨l1, l2, ⟨p, trivial⟩, q⟩
theorem card_fSub : FnOK Try.prog 49 (specUUU noC fsubG) :=
  FnOK_UUU (CxOK_cons card_Cmp (CxOK_cons card_difference CxOK_nil)) (iv := fun _ _ _ => []) (N := 100) Try.func49 (by kernel_rfl) (by kernel_rfl) (fun _ _ _ => bnd_two (bnd_U _) (bnd_I _ _)) ok_fSub
theorem ok_fMul : ∀ a b m : Nat, Ok (noC a b m) → Owes Try.prog cxFmul [] 100 Try.f57 [sU a, sU b, sU m] (fmulG a b m) := by
  intro a b m _
  rw [vc_fMul]
  intro x1 x2 x3 x4 x5
  obtain ⟨f1, f2, f3⟩ := f_all (a := a) (b := b) (m := m) (r := a % M256 * (b % M256) % (m % M256))
  refine ⟨fun h => ?_, fun h => ⟨fun h1 => ?_, fun h1 => ⟨fun h2 => ?_, fun h2 => ?_⟩⟩⟩
  · obtain ⟨p, q⟩ := f1 (beq_iff_eq.1 h)
    exact ⟨⟨p, trivial⟩, q⟩
  · obtain ⟨p, q⟩ := f2 (beq_eq_false_iff_ne.1 h) (.inl (cmp_ge.1 (of_decide_eq_true h1)))
    exact ⟨⟨p, trivial⟩, q⟩
  · obtain ⟨p, q⟩ := f2 (beq_eq_false_iff_ne.1 h) (.inr (cmp_ge.1 (of_decide_eq_true h2)))
    exact ⟨⟨p, trivial⟩, q⟩
  · have l1 : a % M256 < m % M256 := Nat.lt_of_not_le fun c => of_decide_eq_false h1 (cmp_ge.2 c)
    have l2 : b % M256 < m % M256 := Nat.lt_of_not_le fun c => of_decide_eq_false h2 (cmp_ge.2 c)
    obtain ⟨p, q⟩ := f3 (beq_eq_false_iff_ne.1 h) l1 l2
    exact ⟨l1, l2, ⟨p, trivial⟩, q⟩
theorem card_fMul : FnOK Try.prog 57 (specUUU noC fmulG) :=
  FnOK_UUU (CxOK_cons card_Cmp (CxOK_cons card_product CxOK_nil)) (iv := fun _ _ _ => []) (N := 100) Try.func57 (by kernel_rfl) (by kernel_rfl) (fun _ _ _ => bnd_two (bnd_U _) (bnd_I _ _)) ok_fMul
end Go.Proofs.Yteimeidpcgebkaa
end

section
namespace Go.Proofs.Yteimeidpcgebkaa
open Go.Sx
theorem and_one (v : Nat) (h : v < 18446744073709551616) : IntKind.u64.wrap ((BitVec.ofInt 64 (v : Int) &&& BitVec.ofInt 64 (1 : Int)).toNat : Int) = ((v % 2 : Nat) : Int) := by
  have b1 : (BitVec.ofInt 64 (v : Int)).toNat = v := by rw [BitVec.toNat_ofInt]; omega
  have b2 : (BitVec.ofInt 64 (1 : Int)).toNat = 1 := by decide
  rw [BitVec.toNat_and, b1, b2, Nat.and_one_is_mod, wrap_id (word_nat (by omega))]
theorem limb_bit (x j : Nat) (hj : j < 256) : (IntKind.u64.wrap ((BitVec.ofInt 64 ((limb x (j / 64)).fdiv ((2 ^ (j % 64) : Nat) : Int)) &&& BitVec.ofInt 64 (1 : Int)).toNat : Int) == 1) = (x % M256).testBit j := by
  have e : limb x (j / 64) = ((x / 2 ^ (64 * (j / 64)) % 2 ^ 64 : Nat) : Int) := rfl
  have hc : x / 2 ^ (64 * (j / 64)) % 2 ^ 64 < 18446744073709551616 := Nat.mod_lt _ (by decide)
  rw [e, fdiv_nat, and_one _ (Nat.lt_of_le_of_lt (Nat.div_le_self _ _) hc)]
  have h1 : (x / 2 ^ (64 * (j / 64)) % 2 ^ 64).testBit (j % 64) = (x % M256).testBit j := by
    rw [Nat.testBit_mod_two_pow, M_pow, Nat.testBit_mod_two_pow, Nat.testBit_div_two_pow]
    rw [decide_eq_true (Nat.mod_lt j (show 0 < 64 by decide)), decide_eq_true hj, Nat.mod_add_div]
  rw [← h1, Nat.testBit_eq_decide_div_mod_eq, Bool.eq_iff_iff, beq_iff_eq, decide_eq_true_eq]
  generalize x / 2 ^ (64 * (j / 64)) % 2 ^ 64 / 2 ^ (j % 64) = w
  omega
theorem half_step (X j : Nat) : X / 2 ^ j = 2 * (X / 2 ^ (j + 1)) + (X.testBit j).toNat := by
  rw [Nat.toNat_testBit, Nat.pow_succ, ← Nat.div_div_eq_div_mul]
  generalize X / 2 ^ j = w
  omega
theorem pow_zero_bit {a X m j : Nat} (h : X.testBit j = false) : a ^ (X / 2 ^ (j + 1)) % m * (a ^ (X / 2 ^ (j + 1)) % m) % m = a ^ (X / 2 ^ j) % m := by
  rw [half_step X j, h, ← Nat.mul_mod, ← Nat.pow_add]
  exact congrArg (fun v => a ^ v % m) (by simp; omega)
theorem pow_one_bit {a X m j : Nat} (h : X.testBit j = true) : a ^ (X / 2 ^ (j + 1)) % m * (a ^ (X / 2 ^ (j + 1)) % m) % m * a % m = a ^ (X / 2 ^ j) % m := by
  rw [half_step X j, h, ← Nat.mul_mod, ← Nat.pow_add, Nat.mod_mul_mod, ← Nat.pow_succ]
  exact congrArg (fun v => a ^ v % m) (by simp; omega)
theorem ok_power : ∀ a x m : Nat, Ok (powC a x m) → Owes Try.prog cxPow [((77 + 1) * 100000 + 2, .inv (invPow a x m))] 100 Try.f64 [sU a, sU x, sU m] (powG a x m) := by
  intro a x m hc
  obtain ⟨ha, _⟩ := hc
  rw [vc_power]
  have hM : 1 < M256 := by rw [M256_eq]; decide
  have hmM := Nat.mod_lt m (Nat.lt_trans Nat.zero_lt_one hM)
  have hxM := Nat.mod_lt x (Nat.lt_trans Nat.zero_lt_one hM)
  have hbl := bitsN_le (n := x % M256) (k := 256) hxM
  have hb0 : x % M256 / 2 ^ bitsN (x % M256) = 0 := by
    rcases Nat.eq_zero_or_pos (x % M256) with e | e
    · rw [e, Nat.zero_div]
    · exact Nat.div_eq_of_lt (bitsN_two _ (by omega)).1
  have hbit := fun j hj => limb_bit x j hj
  intro x1 x2 x3 x4
  have E1 : x1 = m % M256 := rfl
  have E2 : x2 = a % M256 := rfl
  have E3 : x3 = x % M256 := rfl
  have E4 : x4 = x2 ^ x3 % x1 % M256 := rfl
  clear_value x4 x3 x2 x1
  rw [← E1] at hmM
  rw [← E2, ← E1] at ha
  rw [← E3] at hbl hb0
  simp only [← E3] at hbit
  have hpos : 0 < x1 := by omega
  have hlt : ∀ v : Nat, v % x1 < M256 := fun v => Nat.lt_trans (Nat.mod_lt v hpos) hmM
  have hmm : ∀ v : Nat, v % x1 % M256 = v % x1 := fun v => Nat.mod_eq_of_lt (hlt v)
  refine ⟨fun h => ⟨?_, trivial⟩, fun h => ⟨fun _ => rfl, bitsN x3, hbl, rfl, ⟨rfl, rfl⟩, ?_, rfl, rfl, rfl, rfl, rfl, rfl, rfl, ⟨?_, trivial⟩, rfl, rfl, rfl, fun y hy => ⟨fun hc => ?_, fun hc => ⟨?_, trivial⟩⟩⟩⟩
  · have h : 1 = x1 := beq_iff_eq.1 h
    rw [E4, ← h, Nat.mod_one, Nat.zero_mod]
  · rw [IntWalk.i64_in _ (by omega)]
    omega
  · have h : 1 ≠ x1 := beq_eq_false_iff_ne.1 h
    rw [hb0, Nat.pow_zero, hmm, Nat.mod_eq_of_lt (by omega)]
  · have hy0 : 1 ≤ y := by have := of_decide_eq_true hc; omega
    obtain ⟨j, rfl⟩ : ∃ j, y = j + 1 := ⟨y - 1, by omega⟩
    have hj : j < 256 := by omega
    rw [show ((j + 1 : Nat) : Int) - 1 = (j : Int) by omega]
    have t1 : IntKind.i64.wrap ((j : Int).tdiv 64) = ((j / 64 : Nat) : Int) := by
      have e : (j : Int).tdiv 64 = ((j / 64 : Nat) : Int) := tdiv_nat j 64
      rw [e, IntWalk.i64_in _ (by omega)]
    have t2 : (j : Int).tmod 64 = ((j % 64 : Nat) : Int) := by
      rw [Int.tmod_eq_emod_of_nonneg (Int.natCast_nonneg _)]
      exact (Int.natCast_emod j 64).symm
    have t3 : IntKind.i64.wrap ((j : Int) - 1) = ((j : Nat) : Int) - 1 := IntWalk.i64_in _ (by omega)
    have hq : (0 : Int) ≤ ((j / 64 : Nat) : Int) ∧ ((j / 64 : Nat) : Int) < 4 := by omega
    rw [t1, t2, t3, two_min _ (by omega), Int.toNat_natCast, hbit j hj, hmm, hmm, hmm]
    refine ⟨hq, hq, nn _, Nat.mod_lt _ hpos, Nat.mod_lt _ hpos, fun hb => ⟨Nat.mod_lt _ hpos, ha, j, by omega, rfl, ⟨rfl, rfl⟩, rfl, rfl, rfl, rfl, rfl, rfl, rfl, rfl, ?_, rfl, rfl, rfl, by omega⟩, fun hb => ⟨j, by omega, rfl, ⟨rfl, rfl⟩, rfl, rfl, rfl, rfl, rfl, rfl, rfl, rfl, ?_, rfl, rfl, rfl, by omega⟩⟩
    · rw [pow_one_bit hb, hmm]
    · rw [pow_zero_bit hb, hmm]
  · have hy0 : y = 0 := by have := of_decide_eq_false hc; omega
    rw [hy0, Nat.pow_zero, Nat.div_one, E4]
theorem card_power : FnOK Try.prog 64 (specUUU powC powG) :=
  FnOK_UUU (CxOK_cons card_product (CxOK_cons card_fnoughts CxOK_nil)) (iv := fun a x m => [((77 + 1) * 100000 + 2, .inv (invPow a x m))]) (N := 100) Try.func64 (by kernel_rfl) (by kernel_rfl) (fun _ _ _ => bnd_one (bnd_U _)) ok_power
theorem p_all {a m r : Nat} :
    (m % M256 = 0 → 0 = (if pE a m = 0 then r else 0) % M256 ∧ 7 = pE a m) ∧
    (m % M256 ≠ 0 → m % M256 ≤ a % M256 → 0 = (if pE a m = 0 then r else 0) % M256 ∧ 6 = pE a m) ∧
    (m % M256 ≠ 0 → a % M256 < m % M256 → r % M256 = (if pE a m = 0 then r else 0) % M256 ∧ 0 = pE a m) := by
  refine ⟨fun h => ?_, fun h h' => ?_, fun h h1 => ?_⟩
  · have e : pE a m = 7 := by unfold pE; rw [if_pos h]
    rw [e, if_neg (by decide)]
    exact ⟨(Nat.zero_mod _).symm, rfl⟩
  · have e : pE a m = 6 := by unfold pE; rw [if_neg h, if_neg (by omega)]
    rw [e, if_neg (by decide)]
    exact ⟨(Nat.zero_mod _).symm, rfl⟩
  · have e : pE a m = 0 := by unfold pE; rw [if_neg h, if_pos h1]
    rw [e, if_pos rfl]
    exact ⟨rfl, rfl⟩
theorem ok_fPow : ∀ a x m : Nat, Ok (noC a x m) → Owes Try.prog cxFpow [] 100 Try.f48 [sU a, sU x, sU m] (fpowG a x m) := by
  intro a x m _
  rw [vc_fPow]
  intro x1 x2 x3 x4
  obtain ⟨f1, f2, f3⟩ := p_all (a := a) (m := m) (r := (a % M256) ^ (x % M256) % (m % M256))
  refine ⟨fun h => ?_, fun h => ⟨fun h1 => ?_, fun h1 => ?_⟩⟩
  · obtain ⟨p, q⟩ := f1 (beq_iff_eq.1 h)
    exact ⟨⟨p, trivial⟩, q⟩
  · obtain ⟨p, q⟩ := f2 (beq_eq_false_iff_ne.1 h) (cmp_ge.1 (of_decide_eq_true h1))
    exact ⟨⟨p, trivial⟩, q⟩
  · have l1 : a % M256 < m % M256 := Nat.lt_of_not_le fun c => of_decide_eq_false h1 (cmp_ge.2 c)
    obtain ⟨p, q⟩ := f3 (beq_eq_false_iff_ne.1 h) l1
    exact ⟨l1, ⟨p, trivial⟩, q⟩
theorem card_fPow : FnOK Try.prog 48 (specUUU noC fpowG) :=
  FnOK_UUU (CxOK_cons card_Cmp (CxOK_cons card_power CxOK_nil)) (iv := fun _ _ _ => []) (N := 100) Try.func48 (by kernel_rfl) (by kernel_rfl) (fun _ _ _ => bnd_two (bnd_U _) (bnd_I _ _)) ok_fPow
end Go.Proofs.Yteimeidpcgebkaa
end

section
namespace Go.Proofs.Yteimeidpcgebkaa
open Go.Sx
theorem limb_mod (a i : Nat) (hi : i ≤ 3) : a / 2 ^ (64 * i) % 2 ^ 64 = a % M256 / 2 ^ (64 * i) % 2 ^ 64 := by
  have e : M256 = 2 ^ (64 * i) * 2 ^ (256 - 64 * i) := by rw [← Nat.pow_add, M_pow, show 64 * i + (256 - 64 * i) = 256 by omega]
  rw [e, Nat.mod_mul_right_div_self, Nat.mod_mod_of_dvd _ (Nat.pow_dvd_pow 2 (by omega))]
end Go.Proofs.Yteimeidpcgebkaa
end

section
namespace Go.Proofs.Yteimeidpcgebkaa
open Go.Sx
end Go.Proofs.Yteimeidpcgebkaa
end

section
namespace Go.Proofs.Yteimeidpcgebkaa
open Go.Sx
end Go.Proofs.Yteimeidpcgebkaa
end

section
namespace Go.Proofs.Yteimeidpcgebkaa
open Go.Sx
end Go.Proofs.Yteimeidpcgebkaa
end

section
namespace Go.Proofs.Yteimeidpcgebkaa
open Go.Sx
end Go.Proofs.Yteimeidpcgebkaa
end

section
namespace Go.Proofs.Yteimeidpcgebkaa
open Go.Sx
theorem M_pos : 0 < M256 := by rw [M256_eq]; decide
theorem mod_M {v m : Nat} (h : v < m % M256) : v % M256 = v := Nat.mod_eq_of_lt (Nat.lt_trans h (Nat.mod_lt _ M_pos))
theorem fE_zero {a b m : Nat} (ha : a % M256 < m % M256) (hb : b % M256 < m % M256) : fE a b m = 0 := by
  unfold fE
  rw [if_neg (by omega), if_pos ⟨ha, hb⟩]
theorem bnd_none : SV.bnd none0 (.tup []) := by intro z hz; simp at hz
end Go.Proofs.Yteimeidpcgebkaa
end

section
namespace Go.Sx
open Go.RowKit
def asDg (x : SA) : Option (List Prop × Nat × (Nat → Int)) :=
  match x with
  | .sc (.val (.slice none 0 0)) => some ([], 0, fun _ => 0)
  | .sc (.xs _ n _ w h) => match Nat.beq w 1 with
    | true => some ([∀ i, isKind .u64 (h i 0)], n, fun i => intsC (h i 0))
    | false => none
  | _ => none
theorem asDg_canon {x : SA} {ps : List Prop} {n : Nat} {f : Nat → Int} (h : asDg x = some (ps, n, f)) (hp : Ok ps) : ∃ a cap, (∀ ρ, x.conc ρ = (xsI a n cap .u64 f).conc ρ) ∧ ∀ fz, x.bnd ⟨fun _ => True, fz⟩ → (xsI a n cap .u64 f).bnd ⟨fun _ => False, fz⟩ := by
  unfold asDg at h
  split at h
  · simp only [Option.some.injEq, Prod.mk.injEq] at h
    obtain ⟨rfl, rfl, rfl⟩ := h
    exact ⟨none, 0, fun _ => rfl, fun _ _ => ⟨fun _ => ⟨rfl, rfl⟩, Nat.le_refl _, fun b hb => by cases hb⟩⟩
  · rename_i a m cap w g
    split at h
    case h_2 => cases h
    rename_i hw
    have hw := Nat.eq_of_beq_eq_true hw
    subst hw
    simp only [Option.some.injEq, Prod.mk.injEq] at h
    obtain ⟨rfl, rfl, rfl⟩ := h
    refine ⟨a, cap, fun _ => rfl, fun fz hb => ⟨hb.1, hb.2.1, fun b e => ⟨(hb.2.2 b e).1, fun i hi c hc => ?_⟩⟩⟩
    obtain ⟨_, _, q⟩ := (hb.2.2 b e).2 i hi c hc
    have hc0 : c = 0 := by omega
    subst hc0
    rw [isKind_sound (hp.1 i) Rho.nil] at q
    exact ⟨trivial, rfl, q⟩
  · cases h
def specD (sh : Bool) (c : Nat → (Nat → Int) → List Prop) (r : Nat → (Nat → Int) → List RS) : SSpec := ⟨sh, fun args =>
  match args with
  | [x] => match asDg x with
    | some (p, n, f) => some (p ++ c n f, r n f)
    | none => none
  | _ => none⟩
def specDD (sh : Bool) (c : Nat → (Nat → Int) → Nat → (Nat → Int) → List Prop) (r : Nat → (Nat → Int) → Nat → (Nat → Int) → List RS) : SSpec := ⟨sh, fun args =>
  match args with
  | [x, y] => match asDg x, asDg y with
    | some (p, n, f), some (q, m, g) => some (p ++ (q ++ c n f m g), r n f m g)
    | _, _ => none
  | _ => none⟩
def specUR (r : Nat → List RS) : SSpec := ⟨false, fun args =>
  match args with
  | [x] => match asU x with
    | some (p, a) => some (p, r a)
    | none => none
  | _ => none⟩
def specDU (c : Nat → (Nat → Int) → Nat → List Prop) (r : Nat → (Nat → Int) → Nat → List RS) : SSpec := ⟨false, fun args =>
  match args with
  | [x, y] => match asDg x, asU y with
    | some (p, n, f), some (q, m) => some (p ++ (q ++ c n f m), r n f m)
    | _, _ => none
  | _ => none⟩
section
variable {P : Program} {cx : Cx} {sl : List (Nat × SSpec)} {f : Nat} {fn : Func}
theorem FnOKs_D (hcx : CxOK P cx) (hsl : ∀ p ∈ sl, FnOKs P cx.gl p.1 p.2) (hf : P.funcs[f]? = some fn) (hb : fn.body.isSome = true) (hn : (fn.name == "runtime.NumGoroutine") = false) {sh : Bool} {c : Nat → (Nat → Int) → List Prop} {r : Nat → (Nat → Int) → List RS} {iv : Option Addr → Nat → Nat → (Nat → Int) → List (Nat × Hint)} {N : Nat} (hr : ∀ n f, ∀ x ∈ r n f, x.closed)
    (h : ∀ a n cap g, Ok (c n g) → OwesR P cx sl (iv a n cap g) N fn [xsI a n cap .u64 g] sh (r n g)) : FnOKs P cx.gl f (specD sh c r) := by
  refine FnOKs_owes hcx hsl hf hb hn fun args ps rs hs hp => ?_
  simp only [specD] at hs
  split at hs
  case h_2 => cases hs
  rename_i x
  split at hs
  case h_2 => cases hs
  rename_i p n g hx
  simp only [Option.some.injEq, Prod.mk.injEq] at hs
  obtain ⟨rfl, rfl⟩ := hs
  obtain ⟨o1, o2⟩ := Ok.append.1 hp
  obtain ⟨a, cap, k1, k2⟩ := asDg_canon hx o1
  refine ⟨iv a n cap g, N, [xsI a n cap .u64 g], fun ρ => by simp only [List.map_cons, List.map_nil, k1 ρ], fun fz ha z hz => ?_, hr n g, h a n cap g o2⟩
  simp only [List.mem_singleton] at hz
  subst hz
  exact k2 fz (ha x (by simp))
theorem FnOKs_DD (hcx : CxOK P cx) (hsl : ∀ p ∈ sl, FnOKs P cx.gl p.1 p.2) (hf : P.funcs[f]? = some fn) (hb : fn.body.isSome = true) (hn : (fn.name == "runtime.NumGoroutine") = false) {sh : Bool} {c : Nat → (Nat → Int) → Nat → (Nat → Int) → List Prop} {r : Nat → (Nat → Int) → Nat → (Nat → Int) → List RS} {iv : Option Addr → Nat → Nat → (Nat → Int) → Option Addr → Nat → Nat → (Nat → Int) → List (Nat × Hint)} {N : Nat} (hr : ∀ n f m g, ∀ x ∈ r n f m g, x.closed)
    (h : ∀ a n cap g a' n' cap' g', Ok (c n g n' g') → OwesR P cx sl (iv a n cap g a' n' cap' g') N fn [xsI a n cap .u64 g, xsI a' n' cap' .u64 g'] sh (r n g n' g')) : FnOKs P cx.gl f (specDD sh c r) := by
  refine FnOKs_owes hcx hsl hf hb hn fun args ps rs hs hp => ?_
  simp only [specDD] at hs
  split at hs
  case h_2 => cases hs
  rename_i x y
  split at hs
  case h_2 => cases hs
  rename_i p n g q n' g' hx hy
  simp only [Option.some.injEq, Prod.mk.injEq] at hs
  obtain ⟨rfl, rfl⟩ := hs
  obtain ⟨o1, o23⟩ := Ok.append.1 hp
  obtain ⟨o2, o3⟩ := Ok.append.1 o23
  obtain ⟨a, cap, k1, k2⟩ := asDg_canon hx o1
  obtain ⟨a', cap', k1', k2'⟩ := asDg_canon hy o2
  refine ⟨iv a n cap g a' n' cap' g', N, [xsI a n cap .u64 g, xsI a' n' cap' .u64 g'], fun ρ => by simp only [List.map_cons, List.map_nil, k1 ρ, k1' ρ], fun fz ha z hz => ?_, hr n g n' g', h a n cap g a' n' cap' g' o3⟩
  simp only [List.mem_cons, List.not_mem_nil, or_false] at hz
  rcases hz with rfl | rfl
  · exact k2 fz (ha x (by simp))
  · exact k2' fz (ha y (by simp))
theorem bnd_Un {n : Env} (a : Nat) : (SA.agg [SK.u a]).bnd n := by
  intro k hk
  simp only [List.mem_singleton] at hk
  subst hk
  trivial
theorem FnOKs_UR (hcx : CxOK P cx) (hsl : ∀ p ∈ sl, FnOKs P cx.gl p.1 p.2) (hf : P.funcs[f]? = some fn) (hb : fn.body.isSome = true) (hn : (fn.name == "runtime.NumGoroutine") = false) {r : Nat → List RS} {iv : Nat → List (Nat × Hint)} {N : Nat} (hr : ∀ a, ∀ x ∈ r a, x.closed)
    (h : ∀ a, OwesR P cx sl (iv a) N fn [sU a] false (r a)) : FnOKs P cx.gl f (specUR r) := by
  refine FnOKs_owes hcx hsl hf hb hn fun args ps rs hs hp => ?_
  simp only [specUR] at hs
  split at hs
  case h_2 => cases hs
  rename_i x
  split at hs
  case h_2 => cases hs
  rename_i p a hx
  simp only [Option.some.injEq, Prod.mk.injEq] at hs
  obtain ⟨rfl, rfl⟩ := hs
  refine ⟨iv a, N, [sU a], fun ρ => by simp only [List.map_cons, List.map_nil, asU_canon hx hp ρ], fun fz _ z hz => ?_, hr a, h a⟩
  simp only [List.mem_singleton] at hz
  subst hz
  exact bnd_Un a
theorem FnOKs_DU (hcx : CxOK P cx) (hsl : ∀ p ∈ sl, FnOKs P cx.gl p.1 p.2) (hf : P.funcs[f]? = some fn) (hb : fn.body.isSome = true) (hn : (fn.name == "runtime.NumGoroutine") = false) {c : Nat → (Nat → Int) → Nat → List Prop} {r : Nat → (Nat → Int) → Nat → List RS} {iv : Option Addr → Nat → Nat → (Nat → Int) → Nat → List (Nat × Hint)} {N : Nat} (hr : ∀ n f m, ∀ x ∈ r n f m, x.closed)
    (h : ∀ a n cap g m, Ok (c n g m) → OwesR P cx sl (iv a n cap g m) N fn [xsI a n cap .u64 g, sU m] false (r n g m)) : FnOKs P cx.gl f (specDU c r) := by
  refine FnOKs_owes hcx hsl hf hb hn fun args ps rs hs hp => ?_
  simp only [specDU] at hs
  split at hs
  case h_2 => cases hs
  rename_i x y
  split at hs
  case h_2 => cases hs
  rename_i p n g q m hx hy
  simp only [Option.some.injEq, Prod.mk.injEq] at hs
  obtain ⟨rfl, rfl⟩ := hs
  obtain ⟨o1, o23⟩ := Ok.append.1 hp
  obtain ⟨o2, o3⟩ := Ok.append.1 o23
  obtain ⟨a, cap, k1, k2⟩ := asDg_canon hx o1
  refine ⟨iv a n cap g m, N, [xsI a n cap .u64 g, sU m], fun ρ => by simp only [List.map_cons, List.map_nil, k1 ρ, asU_canon hy o2 ρ], fun fz ha z hz => ?_, hr n g m, h a n cap g m o3⟩
  simp only [List.mem_cons, List.not_mem_nil, or_false] at hz
  rcases hz with rfl | rfl
  · exact k2 fz (ha x (by simp))
  · exact bnd_Un m
end
def vz (f : Nat → Int) : Nat → Int
  | 0 => 0
  | n + 1 => vz f n + f n * 4294967296 ^ n
def dg (X : Nat) (i : Nat) : Int := ((X / 4294967296 ^ i % 4294967296 : Nat) : Int)
structure dgs (n : Nat) (f : Nat → Int) : Prop where
  at' : ∀ i, i < n → 0 ≤ f i ∧ f i < 4294967296
def vn (n : Nat) (f : Nat → Int) : Nat := (vz f n).toNat
theorem vz_congr {f g : Nat → Int} : ∀ {n : Nat}, (∀ i, i < n → f i = g i) → vz f n = vz g n
  | 0, _ => rfl
  | n + 1, h => by simp only [vz]; rw [vz_congr fun i hi => h i (by omega), h n (by omega)]
theorem pw_pos (n : Nat) : (0 : Int) < 4294967296 ^ n := Int.pow_pos (by decide)
theorem vz_bound {f : Nat → Int} : ∀ {n : Nat}, dgs n f → 0 ≤ vz f n ∧ vz f n < 4294967296 ^ n
  | 0, _ => by simp [vz]
  | n + 1, h => by
    obtain ⟨h1, h2⟩ := vz_bound (n := n) ⟨fun i hi => h.at' i (by omega)⟩
    obtain ⟨k1, k2⟩ := h.at' n (by omega)
    have hp := pw_pos n
    simp only [vz, Int.pow_succ]
    refine ⟨Int.add_nonneg h1 (Int.mul_nonneg k1 (Int.le_of_lt hp)), ?_⟩
    have : f n * 4294967296 ^ n ≤ 4294967295 * 4294967296 ^ n := Int.mul_le_mul_of_nonneg_right (by omega) (Int.le_of_lt hp)
    omega
theorem vz_upd {f : Nat → Int} {k : Nat} {v : Int} : ∀ {n : Nat}, k < n → vz (fun j => if j = k then v else f j) n = vz f n + (v - f k) * 4294967296 ^ k
  | 0, h => by omega
  | n + 1, h => by
    simp only [vz]
    by_cases e : n = k
    · subst e
      rw [if_pos rfl, vz_congr (g := f) fun i hi => if_neg (by omega), Int.sub_mul]
      omega
    · rw [if_neg e, vz_upd (n := n) (by omega)]
      omega
theorem vn_cast {f : Nat → Int} {n : Nat} (h : dgs n f) : ((vn n f : Nat) : Int) = vz f n := by
  unfold vn
  have := (vz_bound h).1
  omega
theorem vn_lt {f : Nat → Int} {n : Nat} (h : dgs n f) : vn n f < 4294967296 ^ n := by
  have h1 := vn_cast h
  have h2 := (vz_bound h).2
  have : ((vn n f : Nat) : Int) < ((4294967296 ^ n : Nat) : Int) := by rw [h1, Int.natCast_pow]; exact h2
  omega
theorem dgs_dg (n X : Nat) : dgs n (dg X) := ⟨fun i _ => by
  unfold dg
  have := Nat.mod_lt (X / 4294967296 ^ i) (show 0 < 4294967296 by decide)
  omega⟩
theorem vz_dg (X : Nat) : ∀ n, vz (dg X) n = ((X % 4294967296 ^ n : Nat) : Int)
  | 0 => by simp [vz, Nat.mod_one]
  | n + 1 => by
    simp only [vz, vz_dg X n, dg]
    rw [Nat.pow_succ, Nat.mod_mul]
    have : ((4294967296 ^ n : Nat) : Int) = (4294967296 : Int) ^ n := Int.natCast_pow _ _
    rw [← this, Int.mul_comm]
    exact (Int.natCast_add _ _).symm ▸ (Int.natCast_mul _ _).symm ▸ rfl
theorem vn_dg (n X : Nat) : vn n (dg X) = X % 4294967296 ^ n := by
  unfold vn
  rw [vz_dg]
  exact Int.toNat_natCast _
theorem vn_dg' {n X : Nat} (h : X < 4294967296 ^ n) : vn n (dg X) = X := by rw [vn_dg, Nat.mod_eq_of_lt h]
theorem vn_congr {f g : Nat → Int} {n : Nat} (h : ∀ i, i < n → f i = g i) : vn n f = vn n g := by unfold vn; rw [vz_congr h]
theorem vz_step {f : Nat → Int} {n : Nat} (h : dgs (n + 1) f) : (vn (n + 1) f) / 4294967296 ^ n = (f n).toNat ∧ (vn (n + 1) f) % 4294967296 ^ n = vn n f := by
  have hn : dgs n f := ⟨fun i hi => h.at' i (by omega)⟩
  have e : vn (n + 1) f = vn n f + 4294967296 ^ n * (f n).toNat := by
    have h1 := vn_cast h
    have h2 := vn_cast hn
    have h3 := (h.at' n (by omega)).1
    have : ((vn (n + 1) f : Nat) : Int) = ((vn n f + 4294967296 ^ n * (f n).toNat : Nat) : Int) := by
      rw [h1, Int.natCast_add, Int.natCast_mul, h2, Int.natCast_pow, Int.toNat_of_nonneg h3, Int.mul_comm]
      rfl
    omega
  have hl := vn_lt hn
  rw [e]
  exact ⟨by rw [Nat.add_mul_div_left _ _ (Nat.pow_pos (by decide)), Nat.div_eq_of_lt hl, Nat.zero_add], by rw [Nat.add_mul_mod_self_left, Nat.mod_eq_of_lt hl]⟩
theorem dg_mod {X n i : Nat} (h : i < n) : dg (X % 4294967296 ^ n) i = dg X i := by
  unfold dg
  have e : (4294967296 : Nat) ^ n = 4294967296 ^ i * (4294967296 * 4294967296 ^ (n - i - 1)) := by
    rw [← Nat.pow_succ', ← Nat.pow_add]
    congr 1
    omega
  rw [e, Nat.mod_mul_right_div_self, Nat.mod_mul_right_mod]
theorem dg_vn {f : Nat → Int} : ∀ {n : Nat}, dgs n f → ∀ i, i < n → dg (vn n f) i = f i
  | 0, _, i, hi => by omega
  | n + 1, h, i, hi => by
    obtain ⟨h1, h2⟩ := vz_step h
    by_cases e : i = n
    · subst e
      obtain ⟨k1, k2⟩ := h.at' i (by omega)
      unfold dg
      rw [h1, Nat.mod_eq_of_lt (by omega)]
      omega
    · rw [← dg_mod (n := n) (by omega), h2]
      exact dg_vn ⟨fun i hi => h.at' i (by omega)⟩ i (by omega)
theorem dg_eq {f : Nat → Int} {n X : Nat} (h : dgs n f) (hX : vz f n = (X : Int)) : ∀ i, i < n → f i = dg X i := by
  have : vn n f = X := by unfold vn; omega
  intro i hi
  rw [← this, dg_vn h i hi]
end Go.Sx
end

section
namespace Go.Sx
open Go.RowKit
theorem pwN_pos (n : Nat) : 0 < 4294967296 ^ n := Nat.pow_pos (by decide)
theorem dg_range (X i : Nat) : 0 ≤ dg X i ∧ dg X i < 4294967296 := (dgs_dg (i + 1) X).at' i (by omega)
theorem dg_out {X n i : Nat} (h : X < 4294967296 ^ n) (hi : n ≤ i) : dg X i = 0 := by
  unfold dg
  rw [Nat.div_eq_of_lt (Nat.lt_of_lt_of_le h (Nat.pow_le_pow_right (by decide) hi))]
  rfl
theorem dg_in {n : Nat} {f : Nat → Int} (h : dgs n f) {i : Nat} (hi : i < n) : f i = dg (vn n f) i := (dg_vn h i hi).symm
theorem dg_past {n : Nat} {f : Nat → Int} (h : dgs n f) {i : Nat} (hi : n ≤ i) : dg (vn n f) i = 0 := dg_out (vn_lt h) hi
theorem mod_succ (X i : Nat) : ((X % 4294967296 ^ (i + 1) : Nat) : Int) = ((X % 4294967296 ^ i : Nat) : Int) + dg X i * 4294967296 ^ i := by
  rw [← vz_dg, ← vz_dg]; rfl
theorem div_succ (X i : Nat) : ((X / 4294967296 ^ i : Nat) : Int) = 4294967296 * ((X / 4294967296 ^ (i + 1) : Nat) : Int) + dg X i := by
  unfold dg
  rw [Nat.pow_succ, ← Nat.div_div_eq_div_mul]
  omega
structure PlusP (X Y : Nat) (i : Nat) (g : Nat → Int) (c : Int) : Prop where
  ds : dgs i g
  c1 : 0 ≤ c ∧ c ≤ 1
  sum : vz g i + c * 4294967296 ^ i = ((X % 4294967296 ^ i : Nat) : Int) + ((Y % 4294967296 ^ i : Nat) : Int)
theorem PlusP.start (X Y : Nat) (g : Nat → Int) : PlusP X Y 0 g 0 := ⟨⟨fun i hi => by omega⟩, ⟨by omega, by omega⟩, by simp [vz, Nat.mod_one]⟩
theorem dgs_app {i : Nat} {g : Nat → Int} {v : Int} (h : dgs i g) (hv : 0 ≤ v ∧ v < 4294967296) : dgs (i + 1) (fun j => bif decide (j < i) then g j else v) := ⟨fun j hj => by
  by_cases e : j < i
  · simp only [e, decide_true, cond_true]; exact h.at' j e
  · simp only [e, decide_false, cond_false]; exact hv⟩
theorem vz_app {i : Nat} {g : Nat → Int} {v : Int} : vz (fun j => bif decide (j < i) then g j else v) (i + 1) = vz g i + v * 4294967296 ^ i := by
  simp only [vz, Nat.lt_irrefl, decide_false, cond_false]
  rw [vz_congr (g := g) fun j hj => by simp only [hj, decide_true, cond_true]]
theorem PlusP.step {X Y i : Nat} {g : Nat → Int} {c s : Int} (h : PlusP X Y i g c) (hs : s = c + dg X i + dg Y i) : PlusP X Y (i + 1) (fun j => bif decide (j < i) then g j else s.tmod 4294967296) (IntKind.u64.wrap (s.tdiv 4294967296)) := by
  obtain ⟨h1, h2, h3⟩ := h
  have hx := dg_range X i
  have hy := dg_range Y i
  have e1 : s.tmod 4294967296 = s % 4294967296 := Int.tmod_eq_emod_of_nonneg (by omega)
  have e2 : s.tdiv 4294967296 = s / 4294967296 := Int.tdiv_eq_ediv_of_nonneg (by omega)
  have e3 : IntKind.u64.wrap (s / 4294967296) = s / 4294967296 := by rw [IntKind.wrap_u64]; omega
  rw [e1, e2, e3]
  refine ⟨dgs_app h1 (by omega), by omega, ?_⟩
  rw [vz_app, mod_succ, mod_succ, Int.pow_succ]
  have hq : s = 4294967296 * (s / 4294967296) + s % 4294967296 := by omega
  generalize s / 4294967296 = q at *
  generalize s % 4294967296 = r at *
  generalize (4294967296 : Int) ^ i = w at *
  generalize vz g i = z at *
  generalize ((X % 4294967296 ^ i : Nat) : Int) = x at *
  generalize ((Y % 4294967296 ^ i : Nat) : Int) = y at *
  generalize dg X i = dx at *
  generalize dg Y i = dy at *
  grind
def cmpI (X Y : Nat) : Int := if X < Y then -1 else if Y < X then 1 else 0
theorem cmp_lt {X Y k : Nat} (h : X / 4294967296 ^ (k + 1) = Y / 4294967296 ^ (k + 1)) (hd : dg X k < dg Y k) : X < Y := by
  have h1 := div_succ X k
  have h2 := div_succ Y k
  rw [h] at h1
  have : X / 4294967296 ^ k < Y / 4294967296 ^ k := by omega
  exact Nat.lt_of_not_le fun hle => by have := Nat.div_le_div_right (c := 4294967296 ^ k) hle; omega
theorem cmp_eq {X Y k : Nat} (h : X / 4294967296 ^ (k + 1) = Y / 4294967296 ^ (k + 1)) (hd : dg X k = dg Y k) : X / 4294967296 ^ k = Y / 4294967296 ^ k := by
  have h1 := div_succ X k
  have h2 := div_succ Y k
  rw [h, hd] at h1
  omega
structure LessP (X Y n : Nat) (i : Nat) (g : Nat → Int) (c : Int) : Prop where
  ds : dgs n g
  c1 : c = 0 ∨ c = 1
  rest : ∀ j, i ≤ j → j < n → g j = dg X j
  sum : vz g i - c * 4294967296 ^ i = ((X % 4294967296 ^ i : Nat) : Int) - ((Y % 4294967296 ^ i : Nat) : Int)
theorem LessP.step {X Y n i : Nat} {g g' : Nat → Int} {c v c' : Int} (h : LessP X Y n i g c) (hi : i < n) (hv : v = dg X i - (c + dg Y i) + c' * 4294967296) (hc : c' = if dg X i < c + dg Y i then 1 else 0) (hg : ∀ j, j < n → g' j = if j = i then v else g j) : LessP X Y n (i + 1) g' c' := by
  obtain ⟨h1, h2, h3, h4⟩ := h
  have hx := dg_range X i
  have hy := dg_range Y i
  have hc' : (c' = 0 ∧ c + dg Y i ≤ dg X i) ∨ (c' = 1 ∧ dg X i < c + dg Y i) := by
    rw [hc]; split
    · exact .inr ⟨rfl, by assumption⟩
    · exact .inl ⟨rfl, by omega⟩
  clear hc
  have hvr : 0 ≤ v ∧ v < 4294967296 := by omega
  refine ⟨⟨fun j hj => ?_⟩, by omega, fun j hj hjn => ?_, ?_⟩
  · rw [hg j hj]
    split
    · exact hvr
    · exact h1.at' j hj
  · rw [hg j hjn, if_neg (by omega)]
    exact h3 j (by omega) hjn
  · simp only [vz]
    rw [vz_congr (g := g) (fun j hj => by rw [hg j (by omega), if_neg (by omega)]), hg i hi, if_pos rfl, mod_succ, mod_succ, Int.pow_succ]
    generalize (4294967296 : Int) ^ i = w at *
    generalize vz g i = z at *
    generalize ((X % 4294967296 ^ i : Nat) : Int) = x at *
    generalize ((Y % 4294967296 ^ i : Nat) : Int) = y at *
    generalize dg X i = dx at *
    generalize dg Y i = dy at *
    clear hg h3 h1 hc' hvr hx hy h2
    grind
theorem LessP.done {X Y n : Nat} {g : Nat → Int} {c : Int} (h : LessP X Y n n g c) (hX : X < 4294967296 ^ n) (hY : Y ≤ X) : ∀ i, i < n → g i = dg (X - Y) i := by
  obtain ⟨h1, h2, _, h4⟩ := h
  rw [Nat.mod_eq_of_lt hX, Nat.mod_eq_of_lt (by omega)] at h4
  have hb := vz_bound h1
  have hp := pw_pos n
  refine dg_eq h1 ?_
  rcases h2 with rfl | rfl
  · omega
  · omega
def lenDg (X : Nat) : Nat := if X = 0 then 0 else Nat.log2 X / 32 + 1
theorem pw_two (n : Nat) : (4294967296 : Nat) ^ n = 2 ^ (32 * n) := by rw [Nat.pow_mul]
theorem lenDg_lt (X : Nat) : X < 4294967296 ^ lenDg X := by
  unfold lenDg
  split
  · subst_vars; decide
  · rename_i h
    rw [pw_two, ← Nat.log2_lt h]
    omega
theorem lenDg_le {X k : Nat} (h : X < 4294967296 ^ k) : lenDg X ≤ k := by
  unfold lenDg
  split
  · omega
  · rename_i h0
    rw [pw_two, ← Nat.log2_lt h0] at h
    omega
theorem lenDg_eq {X k : Nat} (h : X < 4294967296 ^ k) (hk : k = 0 ∨ dg X (k - 1) ≠ 0) : k = lenDg X := by
  have h1 := lenDg_le h
  rcases Nat.lt_or_ge (lenDg X) k with hlt | hge
  · rcases hk with hk | hk
    · omega
    · exact absurd (dg_out (lenDg_lt X) (by omega)) hk
  · omega
structure TimesP (X Y n m : Nat) (i : Nat) (o : Nat → Int) : Prop where
  ds : dgs (n + m) o
  top : ∀ k, i + m ≤ k → k < n + m → o k = 0
  sum : vz o (n + m) = ((X % 4294967296 ^ i : Nat) : Int) * (Y : Int)
structure TimesQ (X Y n m : Nat) (i j : Nat) (o : Nat → Int) (c : Int) : Prop where
  ds : dgs (n + m) o
  c1 : 0 ≤ c ∧ c < 4294967296
  top : ∀ k, i + m ≤ k → k < n + m → o k = 0
  sum : vz o (n + m) + c * 4294967296 ^ (i + j) = ((X % 4294967296 ^ i : Nat) : Int) * (Y : Int) + dg X i * 4294967296 ^ i * ((Y % 4294967296 ^ j : Nat) : Int)
theorem dgs_upd {n k : Nat} {o o' : Nat → Int} {v : Int} (h : dgs n o) (hv : 0 ≤ v ∧ v < 4294967296) (ho : ∀ j, j < n → o' j = if j = k then v else o j) : dgs n o' := ⟨fun j hj => by
  rw [ho j hj]
  split
  · exact hv
  · exact h.at' j hj⟩
theorem TimesQ.step {X Y n m i j : Nat} {o o' : Nat → Int} {c s : Int} (h : TimesQ X Y n m i j o c) (hi : i < n) (hj : j < m) (hs : s = dg X i * dg Y j + o (i + j) + c) (ho : ∀ k, k < n + m → o' k = if k = i + j then s % 4294967296 else o k) : TimesQ X Y n m i (j + 1) o' (s / 4294967296) := by
  obtain ⟨h1, h2, h3, h4⟩ := h
  have hx := dg_range X i
  have hy := dg_range Y j
  have ho2 := h1.at' (i + j) (by omega)
  have hp : 0 ≤ dg X i * dg Y j ∧ dg X i * dg Y j ≤ 4294967295 * 4294967295 := ⟨Int.mul_nonneg hx.1 hy.1, Int.mul_le_mul (by omega) (by omega) hy.1 (by omega)⟩
  refine ⟨dgs_upd h1 (by omega) ho, by omega, fun k hk hkn => ?_, ?_⟩
  · rw [ho k hkn, if_neg (by omega)]; exact h3 k hk hkn
  · rw [vz_congr ho, vz_upd (by omega), mod_succ, ← Nat.add_assoc, Int.pow_succ, Int.pow_add]
    rw [Int.pow_add] at h4
    have hq : s = 4294967296 * (s / 4294967296) + s % 4294967296 := by omega
    generalize s / 4294967296 = q at *
    generalize s % 4294967296 = r at *
    generalize (4294967296 : Int) ^ i = w at *
    generalize (4294967296 : Int) ^ j = u at *
    generalize vz o (n + m) = z at *
    generalize o (i + j) = oo at *
    generalize ((X % 4294967296 ^ i : Nat) : Int) = x at *
    generalize ((Y % 4294967296 ^ j : Nat) : Int) = y at *
    generalize dg X i = dx at *
    generalize dg Y j = dy at *
    generalize (Y : Int) = Z at *
    clear h1 h2 h3 hx hy ho2 hp ho hi hj
    grind
theorem TimesP.enter {X Y n m i : Nat} {o : Nat → Int} (h : TimesP X Y n m i o) : TimesQ X Y n m i 0 o 0 := ⟨h.ds, by omega, h.top, by rw [h.sum]; simp [Nat.mod_one]⟩
theorem TimesQ.leave {X Y n m i : Nat} {o o' : Nat → Int} {c : Int} (h : TimesQ X Y n m i m o c) (hi : i < n) (hY : Y < 4294967296 ^ m) (ho : ∀ k, k < n + m → o' k = if k = i + m then c else o k) : TimesP X Y n m (i + 1) o' := by
  obtain ⟨h1, h2, h3, h4⟩ := h
  refine ⟨dgs_upd h1 h2 ho, fun k hk hkn => ?_, ?_⟩
  · rw [ho k hkn, if_neg (by omega)]; exact h3 k (by omega) hkn
  · rw [vz_congr ho, vz_upd (by omega), h3 (i + m) (by omega) (by omega), mod_succ]
    rw [Nat.mod_eq_of_lt hY] at h4
    generalize (4294967296 : Int) ^ i = w at *
    generalize (4294967296 : Int) ^ (i + m) = u at *
    generalize vz o (n + m) = z at *
    generalize ((X % 4294967296 ^ i : Nat) : Int) = x at *
    generalize dg X i = dx at *
    generalize (Y : Int) = Z at *
    clear h1 h2 h3 ho hi hY
    grind
theorem TimesP.done {X Y n m : Nat} {o : Nat → Int} (h : TimesP X Y n m n o) (hX : X < 4294967296 ^ n) : ∀ i, i < n + m → o i = dg (X * Y) i :=
  dg_eq h.ds (by rw [h.sum, Nat.mod_eq_of_lt hX, Int.natCast_mul])
end Go.Sx
end

section
namespace Go.Proofs.Yteimeidpcgebkaa
open Go Go.Sx Go.RowKit
set_option maxRecDepth 100000
def markR : List (Nat × FSpec) := [(1000000007, fun _ => none)]
def cxR : Cx := ⟨markR, [], 0, []⟩
def r64 (g : Nat → Int) : Nat → Nat → SC := fun i _ => .val (.int .u64 (g i))
def invPlus (a : Option Addr) (n c : Nat) (f : Nat → Int) (b : Option Addr) (m d : Nat) (h : Nat → Int) (P : Nat → (Nat → Int) → Int → Prop) : Inv where
  X := Nat × (Nat → Int) × Int × Nat
  tm y := slotsAt 53 [(0, .one (xsI a n c .u64 f)), (1, .one (xsI b m d .u64 h)), (5, .one (.sc (.slw 1 1 0 y.1 (y.1 + y.2.2.2)))), (6, .one (sI .u64 y.2.2.1)), (7, .one (sI .i64 (y.1 : Int)))]
  ob y := [.dead, .row 22 1 y.1 (r64 y.2.1) y.2.2.2]
  holds y := P y.1 y.2.1 y.2.2.1 ∧ y.1 ≤ max n m ∧ y.1 + y.2.2.2 ≤ maxLen
  less y := max n m - y.1
def invCmp (a : Option Addr) (n c : Nat) (f : Nat → Int) (b : Option Addr) (m d : Nat) (h : Nat → Int) (P : Nat → Prop) : Inv where
  X := Nat
  tm y := slotsAt 40 [(0, .one (xsI a n c .u64 f)), (1, .one (xsI b m d .u64 h)), (5, .one (sI .i64 ((y : Int) - 1)))]
  ob _ := []
  holds y := P y ∧ y ≤ max n m
  less y := y
def invLess (b : Option Addr) (m d : Nat) (h : Nat → Int) (n : Nat) (P : Nat → (Nat → Int) → Int → Prop) : Inv where
  X := Nat × (Nat → Int) × Int × Nat
  tm y := slotsAt 49 [(1, .one (xsI b m d .u64 h)), (5, .one (.sc (.slw 0 1 0 n (n + y.2.2.2)))), (6, .one (sI .u64 y.2.2.1)), (13, .one (sI .i64 (n : Int))), (14, .one (sI .i64 (y.1 : Int)))]
  ob y := [.row 22 1 n (r64 y.2.1) y.2.2.2]
  holds y := P y.1 y.2.1 y.2.2.1 ∧ y.1 ≤ n
  less y := n - y.1
def invShorn (f : Nat → Int) (P : Nat → Prop) : Inv where
  X := Option Addr × Nat × Nat
  tm y := slotsAt 21 [(0, .one (xsI y.1 y.2.1 y.2.2 .u64 f))]
  ob _ := []
  holds y := P y.2.1
  less y := y.2.1
def shornR (n : Nat) (f : Nat → Int) : List RS := [.s (lenDg (vn n f)) .u64 (dg (vn n f))]
def dgsC (n : Nat) (f : Nat → Int) : List Prop := [dgs n f, n ≤ 1000]
def slShorn : List (Nat × SSpec) := [(68, specD true dgsC shornR)]
def invTi (a : Option Addr) (n c : Nat) (f : Nat → Int) (b : Option Addr) (m d : Nat) (h : Nat → Int) (P : Nat → (Nat → Int) → Prop) : Inv where
  X := Nat × (Nat → Int)
  tm y := slotsAt 63 [(0, .one (xsI a n c .u64 f)), (1, .one (xsI b m d .u64 h)), (5, .one (.sc (.slw 0 1 0 (n + m) (n + m)))), (18, .one (xsI a n c .u64 f)), (19, .one (sI .i64 (n : Int))), (20, .one (sI .i64 (y.1 : Int)))]
  ob y := [.row 22 1 (n + m) (r64 y.2) 0]
  holds y := P y.1 y.2 ∧ y.1 ≤ n
  less y := n - y.1
def invTj (a : Option Addr) (n c : Nat) (f : Nat → Int) (b : Option Addr) (m d : Nat) (h : Nat → Int) (P : Nat → Nat → (Nat → Int) → Int → Prop) : Inv where
  X := Nat × Nat × (Nat → Int) × Int
  tm y := slotsAt 63 [(0, .one (xsI a n c .u64 f)), (1, .one (xsI b m d .u64 h)), (5, .one (.sc (.slw 0 1 0 (n + m) (n + m)))), (18, .one (xsI a n c .u64 f)), (19, .one (sI .i64 (n : Int))), (20, .one (sI .i64 (y.1 : Int))), (6, .one (sI .i64 (y.1 : Int))), (7, .one (sI .u64 (f y.1))), (8, .one (sI .u64 y.2.2.2)), (25, .one (xsI b m d .u64 h)), (26, .one (sI .i64 (m : Int))), (27, .one (sI .i64 (y.2.1 : Int)))]
  ob y := [.row 22 1 (n + m) (r64 y.2.2.1) 0]
  holds y := P y.1 y.2.1 y.2.2.1 y.2.2.2 ∧ y.1 < n ∧ y.2.1 ≤ m
  less y := m - y.2.1
theorem vc_dOf (r : Nat → Int) (a : Nat) :
    OwesR Try.prog .none [] [] 20 Try.f31 [sU a] false [.s 8 .u64 r] =
    (∀ (c : Nat), 2 + c ≤ Go.maxLen → (2 ≤ 2 + c ∧ 2 + c ≤ Go.maxLen ∧ (2 + c) * 1 = 2 + c * 1) ∧ ∀ (c : Nat), 4 + c ≤ Go.maxLen → (4 ≤ 4 + c ∧ 4 + c ≤ Go.maxLen ∧ (4 + c) * 1 = 4 + c * 1) ∧ ∀ (c : Nat), 6 + c ≤ Go.maxLen → (6 ≤ 6 + c ∧ 6 + c ≤ Go.maxLen ∧ (6 + c) * 1 = 6 + c * 1) ∧ ∀ (c : Nat), 8 + c ≤ Go.maxLen → 8 = 8 ∧ 8 ≤ 8 + c ∧ ∀ (i : Nat), i < 8 → (intsL [SK.c (SC.val (Go.Value.int Go.IntKind.u64 ((limb a 0).tmod (4294967296 : Int)))), SK.c (SC.val (Go.Value.int Go.IntKind.u64 (Go.IntKind.u64.wrap ((limb a 0).tdiv (4294967296 : Int))))), SK.c (SC.val (Go.Value.int Go.IntKind.u64 ((limb a 1).tmod (4294967296 : Int)))), SK.c (SC.val (Go.Value.int Go.IntKind.u64 (Go.IntKind.u64.wrap ((limb a 1).tdiv (4294967296 : Int))))), SK.c (SC.val (Go.Value.int Go.IntKind.u64 ((limb a 2).tmod (4294967296 : Int)))), SK.c (SC.val (Go.Value.int Go.IntKind.u64 (Go.IntKind.u64.wrap ((limb a 2).tdiv (4294967296 : Int))))), SK.c (SC.val (Go.Value.int Go.IntKind.u64 ((limb a 3).tmod (4294967296 : Int)))), SK.c (SC.val (Go.Value.int Go.IntKind.u64 (Go.IntKind.u64.wrap ((limb a 3).tdiv (4294967296 : Int)))))]).getD i (0 : Int) = r i) := by kernel_rfl
theorem vc_dPlus (a : Option Addr) (n c : Nat) (f : Nat → Int) (b : Option Addr) (m d : Nat) (h : Nat → Int) (P : Nat → (Nat → Int) → Int → Prop) (k : Nat) (r : Nat → Int) :
    OwesR Try.prog cxR [] [(4, .inv1 (invPlus a n c f b m d h P))] 4 Try.f30 [xsI a n c .u64 f, xsI b m d .u64 h] false [.s k .u64 r] =
    (let x1 : Bool := Decidable.decide ((0 : Int) < (↑n : Int)); let x2 : Bool := Decidable.decide ((0 : Int) < (↑m : Int)); let x3 : Int := Go.IntKind.u64.wrap ((0 : Int) + f 0); let x5 : Int := Go.IntKind.u64.wrap (x3 + h 0); let x7 : Int := x5.tmod (4294967296 : Int); let x8 : Int := x3.tmod (4294967296 : Int); let x9 : Int := Go.IntKind.u64.wrap ((0 : Int) + h 0); let x10 : Int := x9.tmod (4294967296 : Int); (∀ (y : Nat × (Nat → Int) × Int × Nat), closedB (slotsAt 53 [(0, SV.one (xsI a n c Go.IntKind.u64 f)), (1, SV.one (xsI b m d Go.IntKind.u64 h)), (5, SV.one (SA.sc (SC.slw 1 1 0 y.fst (y.fst + y.snd.snd.snd)))), (6, SV.one (sI Go.IntKind.u64 y.snd.snd.fst)), (7, SV.one (sI Go.IntKind.i64 (↑y.fst : Int)))]) [SO.dead, SO.row (22 : Go.TypeId) 1 y.fst (r64 y.snd.fst) y.snd.snd.snd] = Bool.true) ∧ (∀ (y : Nat × (Nat → Int) × Int × Nat), P y.fst y.snd.fst y.snd.snd.fst ∧ y.fst ≤ Max.max n m ∧ y.fst + y.snd.snd.snd ≤ Go.maxLen → ((!Decidable.decide ((↑y.fst : Int) < (↑n : Int))) = Bool.true → (!Decidable.decide ((↑y.fst : Int) < (↑n : Int))) = Bool.true) ∧ ((!Decidable.decide ((↑y.fst : Int) < (↑n : Int))) = Bool.true → (!Decidable.decide ((↑y.fst : Int) < (↑n : Int))) = Bool.true) ∧ ((!Decidable.decide ((↑y.fst : Int) < (↑n : Int))) = Bool.true → (!Decidable.decide ((↑y.fst : Int) < (↑n : Int))) = Bool.true) ∧ (Decidable.decide ((↑y.fst : Int) < (↑n : Int)) = Bool.false → (!Decidable.decide ((↑y.fst : Int) < (↑n : Int))) = Bool.true) ∧ ((Decidable.decide ((↑y.fst : Int) < (↑n : Int)) || Decidable.decide ((↑y.fst : Int) < (↑m : Int))) = Bool.true → (Decidable.decide ((↑y.fst : Int) < (↑n : Int)) = Bool.true → ((0 : Int) ≤ (↑y.fst : Int) ∧ (↑y.fst : Int) < (↑n : Int)) ∧ (Decidable.decide ((↑y.fst : Int) < (↑m : Int)) = Bool.true → ((0 : Int) ≤ (↑y.fst : Int) ∧ (↑y.fst : Int) < (↑m : Int)) ∧ 0 = 0 ∧ y.fst = y.fst ∧ (y.fst ≤ y.fst + y.snd.snd.snd ∧ y.fst + y.snd.snd.snd ≤ Go.maxLen ∧ (y.fst + y.snd.snd.snd) * 1 = y.fst * 1 + y.snd.snd.snd) ∧ (y.fst + 1 ≤ Go.maxLen ∧ (y.fst + 1) * 8 ≤ 140737488355328) ∧ ∀ (c_1 : Nat), y.fst + 1 + c_1 ≤ Go.maxLen → ∃ (y' : Nat × (Nat → Int) × Int × Nat), (P y'.fst y'.snd.fst y'.snd.snd.fst ∧ y'.fst ≤ Max.max n m ∧ y'.fst + y'.snd.snd.snd ≤ Go.maxLen) ∧ (a = a ∧ n = n ∧ c = c ∧ ∀ (i : Nat), i < n → f i = f i) ∧ (b = b ∧ m = m ∧ d = d ∧ ∀ (i : Nat), i < m → h i = h i) ∧ (1 = 1 ∧ 1 = 1 ∧ 0 = 0 ∧ y.fst + 1 = y'.fst ∧ y.fst + 1 + c_1 = y'.fst + y'.snd.snd.snd) ∧ Go.IntKind.u64.wrap ((Go.IntKind.u64.wrap (Go.IntKind.u64.wrap (y.snd.snd.fst + f (↑y.fst : Int).toNat) + h (↑y.fst : Int).toNat)).tdiv (4294967296 : Int)) = y'.snd.snd.fst ∧ Go.IntKind.i64.wrap ((↑y.fst : Int) + (1 : Int)) = (↑y'.fst : Int) ∧ y.fst + 1 = y'.fst ∧ c_1 * 1 = y'.snd.snd.snd ∧ (∀ (i : Nat), i < y.fst + 1 → (bif Decidable.decide (i < y.fst) then y.snd.fst i else (Go.IntKind.u64.wrap (Go.IntKind.u64.wrap (y.snd.snd.fst + f (↑y.fst : Int).toNat) + h (↑y.fst : Int).toNat)).tmod (4294967296 : Int)) = y'.snd.fst i) ∧ Max.max n m - y'.fst < Max.max n m - y.fst) ∧ (Decidable.decide ((↑y.fst : Int) < (↑m : Int)) = Bool.false → 0 = 0 ∧ y.fst = y.fst ∧ (y.fst ≤ y.fst + y.snd.snd.snd ∧ y.fst + y.snd.snd.snd ≤ Go.maxLen ∧ (y.fst + y.snd.snd.snd) * 1 = y.fst * 1 + y.snd.snd.snd) ∧ (y.fst + 1 ≤ Go.maxLen ∧ (y.fst + 1) * 8 ≤ 140737488355328) ∧ ∀ (c_1 : Nat), y.fst + 1 + c_1 ≤ Go.maxLen → ∃ (y' : Nat × (Nat → Int) × Int × Nat), (P y'.fst y'.snd.fst y'.snd.snd.fst ∧ y'.fst ≤ Max.max n m ∧ y'.fst + y'.snd.snd.snd ≤ Go.maxLen) ∧ (a = a ∧ n = n ∧ c = c ∧ ∀ (i : Nat), i < n → f i = f i) ∧ (b = b ∧ m = m ∧ d = d ∧ ∀ (i : Nat), i < m → h i = h i) ∧ (1 = 1 ∧ 1 = 1 ∧ 0 = 0 ∧ y.fst + 1 = y'.fst ∧ y.fst + 1 + c_1 = y'.fst + y'.snd.snd.snd) ∧ Go.IntKind.u64.wrap ((Go.IntKind.u64.wrap (y.snd.snd.fst + f (↑y.fst : Int).toNat)).tdiv (4294967296 : Int)) = y'.snd.snd.fst ∧ Go.IntKind.i64.wrap ((↑y.fst : Int) + (1 : Int)) = (↑y'.fst : Int) ∧ y.fst + 1 = y'.fst ∧ c_1 * 1 = y'.snd.snd.snd ∧ (∀ (i : Nat), i < y.fst + 1 → (bif Decidable.decide (i < y.fst) then y.snd.fst i else (Go.IntKind.u64.wrap (y.snd.snd.fst + f (↑y.fst : Int).toNat)).tmod (4294967296 : Int)) = y'.snd.fst i) ∧ Max.max n m - y'.fst < Max.max n m - y.fst)) ∧ (Decidable.decide ((↑y.fst : Int) < (↑n : Int)) = Bool.false → (Decidable.decide ((↑y.fst : Int) < (↑m : Int)) = Bool.true → ((0 : Int) ≤ (↑y.fst : Int) ∧ (↑y.fst : Int) < (↑m : Int)) ∧ 0 = 0 ∧ y.fst = y.fst ∧ (y.fst ≤ y.fst + y.snd.snd.snd ∧ y.fst + y.snd.snd.snd ≤ Go.maxLen ∧ (y.fst + y.snd.snd.snd) * 1 = y.fst * 1 + y.snd.snd.snd) ∧ (y.fst + 1 ≤ Go.maxLen ∧ (y.fst + 1) * 8 ≤ 140737488355328) ∧ ∀ (c_1 : Nat), y.fst + 1 + c_1 ≤ Go.maxLen → ∃ (y' : Nat × (Nat → Int) × Int × Nat), (P y'.fst y'.snd.fst y'.snd.snd.fst ∧ y'.fst ≤ Max.max n m ∧ y'.fst + y'.snd.snd.snd ≤ Go.maxLen) ∧ (a = a ∧ n = n ∧ c = c ∧ ∀ (i : Nat), i < n → f i = f i) ∧ (b = b ∧ m = m ∧ d = d ∧ ∀ (i : Nat), i < m → h i = h i) ∧ (1 = 1 ∧ 1 = 1 ∧ 0 = 0 ∧ y.fst + 1 = y'.fst ∧ y.fst + 1 + c_1 = y'.fst + y'.snd.snd.snd) ∧ Go.IntKind.u64.wrap ((Go.IntKind.u64.wrap (y.snd.snd.fst + h (↑y.fst : Int).toNat)).tdiv (4294967296 : Int)) = y'.snd.snd.fst ∧ Go.IntKind.i64.wrap ((↑y.fst : Int) + (1 : Int)) = (↑y'.fst : Int) ∧ y.fst + 1 = y'.fst ∧ c_1 * 1 = y'.snd.snd.snd ∧ (∀ (i : Nat), i < y.fst + 1 → (bif Decidable.decide (i < y.fst) then y.snd.fst i else (Go.IntKind.u64.wrap (y.snd.snd.fst + h (↑y.fst : Int).toNat)).tmod (4294967296 : Int)) = y'.snd.fst i) ∧ Max.max n m - y'.fst < Max.max n m - y.fst) ∧ (Decidable.decide ((↑y.fst : Int) < (↑m : Int)) = Bool.false → 0 = 0 ∧ y.fst = y.fst ∧ (y.fst ≤ y.fst + y.snd.snd.snd ∧ y.fst + y.snd.snd.snd ≤ Go.maxLen ∧ (y.fst + y.snd.snd.snd) * 1 = y.fst * 1 + y.snd.snd.snd) ∧ (y.fst + 1 ≤ Go.maxLen ∧ (y.fst + 1) * 8 ≤ 140737488355328) ∧ ∀ (c_1 : Nat), y.fst + 1 + c_1 ≤ Go.maxLen → ∃ (y' : Nat × (Nat → Int) × Int × Nat), (P y'.fst y'.snd.fst y'.snd.snd.fst ∧ y'.fst ≤ Max.max n m ∧ y'.fst + y'.snd.snd.snd ≤ Go.maxLen) ∧ (a = a ∧ n = n ∧ c = c ∧ ∀ (i : Nat), i < n → f i = f i) ∧ (b = b ∧ m = m ∧ d = d ∧ ∀ (i : Nat), i < m → h i = h i) ∧ (1 = 1 ∧ 1 = 1 ∧ 0 = 0 ∧ y.fst + 1 = y'.fst ∧ y.fst + 1 + c_1 = y'.fst + y'.snd.snd.snd) ∧ Go.IntKind.u64.wrap (y.snd.snd.fst.tdiv (4294967296 : Int)) = y'.snd.snd.fst ∧ Go.IntKind.i64.wrap ((↑y.fst : Int) + (1 : Int)) = (↑y'.fst : Int) ∧ y.fst + 1 = y'.fst ∧ c_1 * 1 = y'.snd.snd.snd ∧ (∀ (i : Nat), i < y.fst + 1 → (bif Decidable.decide (i < y.fst) then y.snd.fst i else y.snd.snd.fst.tmod (4294967296 : Int)) = y'.snd.fst i) ∧ Max.max n m - y'.fst < Max.max n m - y.fst))) ∧ ((Decidable.decide ((↑y.fst : Int) < (↑n : Int)) || Decidable.decide ((↑y.fst : Int) < (↑m : Int))) = Bool.false → 0 = 0 ∧ y.fst = y.fst ∧ (y.fst ≤ y.fst + y.snd.snd.snd ∧ y.fst + y.snd.snd.snd ≤ Go.maxLen ∧ (y.fst + y.snd.snd.snd) * 1 = y.fst * 1 + y.snd.snd.snd) ∧ (y.fst + 1 ≤ Go.maxLen ∧ (y.fst + 1) * 8 ≤ 140737488355328) ∧ ∀ (c : Nat), y.fst + 1 + c ≤ Go.maxLen → 0 + (y.fst + 1) ≤ y.fst + 1 ∧ y.fst + 1 = k ∧ y.fst + 1 ≤ y.fst + 1 + c ∧ ∀ (i : Nat), i < k → (bif Decidable.decide (0 + i < y.fst) then y.snd.fst (0 + i) else y.snd.snd.fst) = r i)) ∧ ((!x1) = Bool.true → (!x1) = Bool.true) ∧ ((!x1) = Bool.true → (!x1) = Bool.true) ∧ ((!x1) = Bool.true → (!x1) = Bool.true) ∧ (x1 = Bool.false → (!x1) = Bool.true) ∧ ((x1 || x2) = Bool.true → (x1 = Bool.true → ((0 : Int) ≤ (0 : Int) ∧ (0 : Int) < (↑n : Int)) ∧ (x2 = Bool.true → ((0 : Int) ≤ (0 : Int) ∧ (0 : Int) < (↑m : Int)) ∧ (1 ≤ Go.maxLen ∧ 8 ≤ 140737488355328) ∧ ∀ (c_1 : Nat), 1 + c_1 ≤ Go.maxLen → ∃ (y' : Nat × (Nat → Int) × Int × Nat), (P y'.fst y'.snd.fst y'.snd.snd.fst ∧ y'.fst ≤ Max.max n m ∧ y'.fst + y'.snd.snd.snd ≤ Go.maxLen) ∧ (a = a ∧ n = n ∧ c = c ∧ ∀ (i : Nat), i < n → f i = f i) ∧ (b = b ∧ m = m ∧ d = d ∧ ∀ (i : Nat), i < m → h i = h i) ∧ (1 = 1 ∧ 1 = 1 ∧ 0 = 0 ∧ 1 = y'.fst ∧ 1 + c_1 = y'.fst + y'.snd.snd.snd) ∧ Go.IntKind.u64.wrap (x5.tdiv (4294967296 : Int)) = y'.snd.snd.fst ∧ (1 : Int) = (↑y'.fst : Int) ∧ 1 = y'.fst ∧ c_1 * 1 = y'.snd.snd.snd ∧ (∀ (i : Nat), i < 1 → x7 = y'.snd.fst i) ∧ True) ∧ (x2 = Bool.false → (1 ≤ Go.maxLen ∧ 8 ≤ 140737488355328) ∧ ∀ (c_1 : Nat), 1 + c_1 ≤ Go.maxLen → ∃ (y' : Nat × (Nat → Int) × Int × Nat), (P y'.fst y'.snd.fst y'.snd.snd.fst ∧ y'.fst ≤ Max.max n m ∧ y'.fst + y'.snd.snd.snd ≤ Go.maxLen) ∧ (a = a ∧ n = n ∧ c = c ∧ ∀ (i : Nat), i < n → f i = f i) ∧ (b = b ∧ m = m ∧ d = d ∧ ∀ (i : Nat), i < m → h i = h i) ∧ (1 = 1 ∧ 1 = 1 ∧ 0 = 0 ∧ 1 = y'.fst ∧ 1 + c_1 = y'.fst + y'.snd.snd.snd) ∧ Go.IntKind.u64.wrap (x3.tdiv (4294967296 : Int)) = y'.snd.snd.fst ∧ (1 : Int) = (↑y'.fst : Int) ∧ 1 = y'.fst ∧ c_1 * 1 = y'.snd.snd.snd ∧ (∀ (i : Nat), i < 1 → x8 = y'.snd.fst i) ∧ True)) ∧ (x1 = Bool.false → (x2 = Bool.true → ((0 : Int) ≤ (0 : Int) ∧ (0 : Int) < (↑m : Int)) ∧ (1 ≤ Go.maxLen ∧ 8 ≤ 140737488355328) ∧ ∀ (c_1 : Nat), 1 + c_1 ≤ Go.maxLen → ∃ (y' : Nat × (Nat → Int) × Int × Nat), (P y'.fst y'.snd.fst y'.snd.snd.fst ∧ y'.fst ≤ Max.max n m ∧ y'.fst + y'.snd.snd.snd ≤ Go.maxLen) ∧ (a = a ∧ n = n ∧ c = c ∧ ∀ (i : Nat), i < n → f i = f i) ∧ (b = b ∧ m = m ∧ d = d ∧ ∀ (i : Nat), i < m → h i = h i) ∧ (1 = 1 ∧ 1 = 1 ∧ 0 = 0 ∧ 1 = y'.fst ∧ 1 + c_1 = y'.fst + y'.snd.snd.snd) ∧ Go.IntKind.u64.wrap (x9.tdiv (4294967296 : Int)) = y'.snd.snd.fst ∧ (1 : Int) = (↑y'.fst : Int) ∧ 1 = y'.fst ∧ c_1 * 1 = y'.snd.snd.snd ∧ (∀ (i : Nat), i < 1 → x10 = y'.snd.fst i) ∧ True) ∧ (x2 = Bool.false → (1 ≤ Go.maxLen ∧ 8 ≤ 140737488355328) ∧ ∀ (c_1 : Nat), 1 + c_1 ≤ Go.maxLen → ∃ (y' : Nat × (Nat → Int) × Int × Nat), (P y'.fst y'.snd.fst y'.snd.snd.fst ∧ y'.fst ≤ Max.max n m ∧ y'.fst + y'.snd.snd.snd ≤ Go.maxLen) ∧ (a = a ∧ n = n ∧ c = c ∧ ∀ (i : Nat), i < n → f i = f i) ∧ (b = b ∧ m = m ∧ d = d ∧ ∀ (i : Nat), i < m → h i = h i) ∧ (1 = 1 ∧ 1 = 1 ∧ 0 = 0 ∧ 1 = y'.fst ∧ 1 + c_1 = y'.fst + y'.snd.snd.snd) ∧ (0 : Int) = y'.snd.snd.fst ∧ (1 : Int) = (↑y'.fst : Int) ∧ 1 = y'.fst ∧ c_1 * 1 = y'.snd.snd.snd ∧ (∀ (i : Nat), i < 1 → (0 : Int) = y'.snd.fst i) ∧ True))) ∧ ((x1 || x2) = Bool.false → (1 ≤ Go.maxLen ∧ 8 ≤ 140737488355328) ∧ ∀ (c : Nat), 1 + c ≤ Go.maxLen → 1 ≤ 1 ∧ 1 = k ∧ 1 ≤ 1 + c ∧ ∀ (i : Nat), i < k → (0 : Int) = r i)) := by kernel_rfl
theorem vc_compare (a : Option Addr) (n c : Nat) (f : Nat → Int) (b : Option Addr) (m d : Nat) (h : Nat → Int) (P : Nat → Prop) (r : Int) :
    OwesR Try.prog cxR [] [(2, .inv (invCmp a n c f b m d h P))] 4 Try.f50 [xsI a n c .u64 f, xsI b m d .u64 h] false [.v (sI .i64 r)] =
    ((∀ (y : Nat), closedB (slotsAt 40 [(0, SV.one (xsI a n c Go.IntKind.u64 f)), (1, SV.one (xsI b m d Go.IntKind.u64 h)), (5, SV.one (sI Go.IntKind.i64 ((↑y : Int) - (1 : Int))))]) [] = Bool.true) ∧ ∃ (y : Nat), (P y ∧ y ≤ Max.max n m) ∧ (a = a ∧ n = n ∧ c = c ∧ ∀ (i : Nat), i < n → f i = f i) ∧ (b = b ∧ m = m ∧ d = d ∧ ∀ (i : Nat), i < m → h i = h i) ∧ Go.IntKind.i64.wrap ((if (↑m : Int) > (↑n : Int) then (↑m : Int) else (↑n : Int)) - (1 : Int)) = (↑y : Int) - (1 : Int) ∧ ∀ (y : Nat), P y ∧ y ≤ Max.max n m → (Decidable.decide ((↑y : Int) - (1 : Int) ≥ (0 : Int)) = Bool.true → (Decidable.decide ((↑y : Int) - (1 : Int) < (↑n : Int)) = Bool.true → ((0 : Int) ≤ (↑y : Int) - (1 : Int) ∧ (↑y : Int) - (1 : Int) < (↑n : Int)) ∧ (Decidable.decide ((↑y : Int) - (1 : Int) < (↑m : Int)) = Bool.true → ((0 : Int) ≤ (↑y : Int) - (1 : Int) ∧ (↑y : Int) - (1 : Int) < (↑m : Int)) ∧ (Decidable.decide (f ((↑y : Int) - (1 : Int)).toNat < h ((↑y : Int) - (1 : Int)).toNat) = Bool.true → (-1 : Int) = r) ∧ (Decidable.decide (f ((↑y : Int) - (1 : Int)).toNat < h ((↑y : Int) - (1 : Int)).toNat) = Bool.false → (Decidable.decide (f ((↑y : Int) - (1 : Int)).toNat > h ((↑y : Int) - (1 : Int)).toNat) = Bool.true → (1 : Int) = r) ∧ (Decidable.decide (f ((↑y : Int) - (1 : Int)).toNat > h ((↑y : Int) - (1 : Int)).toNat) = Bool.false → ∃ (y' : Nat), (P y' ∧ y' ≤ Max.max n m) ∧ (a = a ∧ n = n ∧ c = c ∧ ∀ (i : Nat), i < n → f i = f i) ∧ (b = b ∧ m = m ∧ d = d ∧ ∀ (i : Nat), i < m → h i = h i) ∧ Go.IntKind.i64.wrap ((↑y : Int) - (1 : Int) - (1 : Int)) = (↑y' : Int) - (1 : Int) ∧ y' < y))) ∧ (Decidable.decide ((↑y : Int) - (1 : Int) < (↑m : Int)) = Bool.false → (Decidable.decide (f ((↑y : Int) - (1 : Int)).toNat < (0 : Int)) = Bool.true → (-1 : Int) = r) ∧ (Decidable.decide (f ((↑y : Int) - (1 : Int)).toNat < (0 : Int)) = Bool.false → (Decidable.decide (f ((↑y : Int) - (1 : Int)).toNat > (0 : Int)) = Bool.true → (1 : Int) = r) ∧ (Decidable.decide (f ((↑y : Int) - (1 : Int)).toNat > (0 : Int)) = Bool.false → ∃ (y' : Nat), (P y' ∧ y' ≤ Max.max n m) ∧ (a = a ∧ n = n ∧ c = c ∧ ∀ (i : Nat), i < n → f i = f i) ∧ (b = b ∧ m = m ∧ d = d ∧ ∀ (i : Nat), i < m → h i = h i) ∧ Go.IntKind.i64.wrap ((↑y : Int) - (1 : Int) - (1 : Int)) = (↑y' : Int) - (1 : Int) ∧ y' < y)))) ∧ (Decidable.decide ((↑y : Int) - (1 : Int) < (↑n : Int)) = Bool.false → (Decidable.decide ((↑y : Int) - (1 : Int) < (↑m : Int)) = Bool.true → ((0 : Int) ≤ (↑y : Int) - (1 : Int) ∧ (↑y : Int) - (1 : Int) < (↑m : Int)) ∧ (Decidable.decide ((0 : Int) < h ((↑y : Int) - (1 : Int)).toNat) = Bool.true → (-1 : Int) = r) ∧ (Decidable.decide ((0 : Int) < h ((↑y : Int) - (1 : Int)).toNat) = Bool.false → (Decidable.decide ((0 : Int) > h ((↑y : Int) - (1 : Int)).toNat) = Bool.true → (1 : Int) = r) ∧ (Decidable.decide ((0 : Int) > h ((↑y : Int) - (1 : Int)).toNat) = Bool.false → ∃ (y' : Nat), (P y' ∧ y' ≤ Max.max n m) ∧ (a = a ∧ n = n ∧ c = c ∧ ∀ (i : Nat), i < n → f i = f i) ∧ (b = b ∧ m = m ∧ d = d ∧ ∀ (i : Nat), i < m → h i = h i) ∧ Go.IntKind.i64.wrap ((↑y : Int) - (1 : Int) - (1 : Int)) = (↑y' : Int) - (1 : Int) ∧ y' < y))) ∧ (Decidable.decide ((↑y : Int) - (1 : Int) < (↑m : Int)) = Bool.false → ∃ (y' : Nat), (P y' ∧ y' ≤ Max.max n m) ∧ (a = a ∧ n = n ∧ c = c ∧ ∀ (i : Nat), i < n → f i = f i) ∧ (b = b ∧ m = m ∧ d = d ∧ ∀ (i : Nat), i < m → h i = h i) ∧ Go.IntKind.i64.wrap ((↑y : Int) - (1 : Int) - (1 : Int)) = (↑y' : Int) - (1 : Int) ∧ y' < y))) ∧ (Decidable.decide ((↑y : Int) - (1 : Int) ≥ (0 : Int)) = Bool.false → (0 : Int) = r)) := by kernel_rfl
theorem vc_dLess (a : Option Addr) (n c : Nat) (f : Nat → Int) (b : Option Addr) (m d : Nat) (h : Nat → Int) (P : Nat → (Nat → Int) → Int → Prop) (r : Nat → Int) :
    OwesR Try.prog cxR [] [(4, .inv (invLess b m d h n P))] 4 Try.f54 [xsI a n c .u64 f, xsI b m d .u64 h] false [.s n .u64 r] =
    (let x1 : Nat := 0 + n; (0 ≤ 0 ∧ 0 ≤ Go.maxLen ∧ 0 = 0) ∧ (x1 ≤ Go.maxLen ∧ x1 * 8 ≤ 140737488355328) ∧ ∀ (c : Nat), x1 + c ≤ Go.maxLen → (∀ (y : Nat × (Nat → Int) × Int × Nat), closedB (slotsAt 49 [(1, SV.one (xsI b m d Go.IntKind.u64 h)), (5, SV.one (SA.sc (SC.slw 0 1 0 n (n + y.snd.snd.snd)))), (6, SV.one (sI Go.IntKind.u64 y.snd.snd.fst)), (13, SV.one (sI Go.IntKind.i64 (↑n : Int))), (14, SV.one (sI Go.IntKind.i64 (↑y.fst : Int)))]) [SO.row (22 : Go.TypeId) 1 n (r64 y.snd.fst) y.snd.snd.snd] = Bool.true) ∧ ∃ (y : Nat × (Nat → Int) × Int × Nat), (P y.fst y.snd.fst y.snd.snd.fst ∧ y.fst ≤ n) ∧ (b = b ∧ m = m ∧ d = d ∧ ∀ (i : Nat), i < m → h i = h i) ∧ (0 = 0 ∧ 1 = 1 ∧ 0 = 0 ∧ x1 = n ∧ x1 + c = n + y.snd.snd.snd) ∧ (0 : Int) = y.snd.snd.fst ∧ (↑x1 : Int) = (↑n : Int) ∧ (0 : Int) = (↑y.fst : Int) ∧ x1 = n ∧ c * 1 = y.snd.snd.snd ∧ (∀ (i : Nat), i < x1 → f (i - 0) = y.snd.fst i) ∧ ∀ (y : Nat × (Nat → Int) × Int × Nat), P y.fst y.snd.fst y.snd.snd.fst ∧ y.fst ≤ n → (Decidable.decide ((↑y.fst : Int) < (↑n : Int)) = Bool.true → (Decidable.decide ((↑y.fst : Int) < (↑m : Int)) = Bool.true → ((0 : Int) ≤ (↑y.fst : Int) ∧ (↑y.fst : Int) < (↑m : Int)) ∧ ((0 : Int) ≤ (↑y.fst : Int) ∧ (↑y.fst : Int) < (↑n : Int)) ∧ 0 + (↑y.fst : Int).toNat < n ∧ (Decidable.decide (y.snd.fst (0 + (↑y.fst : Int).toNat) < Go.IntKind.u64.wrap (y.snd.snd.fst + h (↑y.fst : Int).toNat)) = Bool.true → ((0 : Int) ≤ (↑y.fst : Int) ∧ (↑y.fst : Int) < (↑n : Int)) ∧ 0 + (↑y.fst : Int).toNat < n ∧ ((0 : Int) ≤ (↑y.fst : Int) ∧ (↑y.fst : Int) < (↑n : Int)) ∧ 0 + (↑y.fst : Int).toNat < n ∧ ((0 : Int) ≤ (↑y.fst : Int) ∧ (↑y.fst : Int) < (↑n : Int)) ∧ 0 + (↑y.fst : Int).toNat < n ∧ ((0 : Int) ≤ (↑y.fst : Int) ∧ (↑y.fst : Int) < (↑n : Int)) ∧ 0 + (↑y.fst : Int).toNat < n ∧ ∃ (y' : Nat × (Nat → Int) × Int × Nat), (P y'.fst y'.snd.fst y'.snd.snd.fst ∧ y'.fst ≤ n) ∧ (b = b ∧ m = m ∧ d = d ∧ ∀ (i : Nat), i < m → h i = h i) ∧ (0 = 0 ∧ 1 = 1 ∧ 0 = 0 ∧ n = n ∧ n + y.snd.snd.snd = n + y'.snd.snd.snd) ∧ (1 : Int) = y'.snd.snd.fst ∧ (↑n : Int) = (↑n : Int) ∧ Go.IntKind.i64.wrap ((↑y.fst : Int) + (1 : Int)) = (↑y'.fst : Int) ∧ n = n ∧ y.snd.snd.snd = y'.snd.snd.snd ∧ (∀ (i : Nat), i < n → (bif Decidable.decide (i = 0 + (↑y.fst : Int).toNat) then Go.IntKind.u64.wrap ((bif Decidable.decide (0 + (↑y.fst : Int).toNat = 0 + (↑y.fst : Int).toNat) then Go.IntKind.u64.wrap (y.snd.fst (0 + (↑y.fst : Int).toNat) + (4294967296 : Int)) else y.snd.fst (0 + (↑y.fst : Int).toNat)) - Go.IntKind.u64.wrap (y.snd.snd.fst + h (↑y.fst : Int).toNat)) else bif Decidable.decide (i = 0 + (↑y.fst : Int).toNat) then Go.IntKind.u64.wrap (y.snd.fst (0 + (↑y.fst : Int).toNat) + (4294967296 : Int)) else y.snd.fst i) = y'.snd.fst i) ∧ n - y'.fst < n - y.fst) ∧ (Decidable.decide (y.snd.fst (0 + (↑y.fst : Int).toNat) < Go.IntKind.u64.wrap (y.snd.snd.fst + h (↑y.fst : Int).toNat)) = Bool.false → ((0 : Int) ≤ (↑y.fst : Int) ∧ (↑y.fst : Int) < (↑n : Int)) ∧ 0 + (↑y.fst : Int).toNat < n ∧ ((0 : Int) ≤ (↑y.fst : Int) ∧ (↑y.fst : Int) < (↑n : Int)) ∧ 0 + (↑y.fst : Int).toNat < n ∧ ∃ (y' : Nat × (Nat → Int) × Int × Nat), (P y'.fst y'.snd.fst y'.snd.snd.fst ∧ y'.fst ≤ n) ∧ (b = b ∧ m = m ∧ d = d ∧ ∀ (i : Nat), i < m → h i = h i) ∧ (0 = 0 ∧ 1 = 1 ∧ 0 = 0 ∧ n = n ∧ n + y.snd.snd.snd = n + y'.snd.snd.snd) ∧ (0 : Int) = y'.snd.snd.fst ∧ (↑n : Int) = (↑n : Int) ∧ Go.IntKind.i64.wrap ((↑y.fst : Int) + (1 : Int)) = (↑y'.fst : Int) ∧ n = n ∧ y.snd.snd.snd = y'.snd.snd.snd ∧ (∀ (i : Nat), i < n → (bif Decidable.decide (i = 0 + (↑y.fst : Int).toNat) then Go.IntKind.u64.wrap (y.snd.fst (0 + (↑y.fst : Int).toNat) - Go.IntKind.u64.wrap (y.snd.snd.fst + h (↑y.fst : Int).toNat)) else y.snd.fst i) = y'.snd.fst i) ∧ n - y'.fst < n - y.fst)) ∧ (Decidable.decide ((↑y.fst : Int) < (↑m : Int)) = Bool.false → ((0 : Int) ≤ (↑y.fst : Int) ∧ (↑y.fst : Int) < (↑n : Int)) ∧ 0 + (↑y.fst : Int).toNat < n ∧ (Decidable.decide (y.snd.fst (0 + (↑y.fst : Int).toNat) < y.snd.snd.fst) = Bool.true → ((0 : Int) ≤ (↑y.fst : Int) ∧ (↑y.fst : Int) < (↑n : Int)) ∧ 0 + (↑y.fst : Int).toNat < n ∧ ((0 : Int) ≤ (↑y.fst : Int) ∧ (↑y.fst : Int) < (↑n : Int)) ∧ 0 + (↑y.fst : Int).toNat < n ∧ ((0 : Int) ≤ (↑y.fst : Int) ∧ (↑y.fst : Int) < (↑n : Int)) ∧ 0 + (↑y.fst : Int).toNat < n ∧ ((0 : Int) ≤ (↑y.fst : Int) ∧ (↑y.fst : Int) < (↑n : Int)) ∧ 0 + (↑y.fst : Int).toNat < n ∧ ∃ (y' : Nat × (Nat → Int) × Int × Nat), (P y'.fst y'.snd.fst y'.snd.snd.fst ∧ y'.fst ≤ n) ∧ (b = b ∧ m = m ∧ d = d ∧ ∀ (i : Nat), i < m → h i = h i) ∧ (0 = 0 ∧ 1 = 1 ∧ 0 = 0 ∧ n = n ∧ n + y.snd.snd.snd = n + y'.snd.snd.snd) ∧ (1 : Int) = y'.snd.snd.fst ∧ (↑n : Int) = (↑n : Int) ∧ Go.IntKind.i64.wrap ((↑y.fst : Int) + (1 : Int)) = (↑y'.fst : Int) ∧ n = n ∧ y.snd.snd.snd = y'.snd.snd.snd ∧ (∀ (i : Nat), i < n → (bif Decidable.decide (i = 0 + (↑y.fst : Int).toNat) then Go.IntKind.u64.wrap ((bif Decidable.decide (0 + (↑y.fst : Int).toNat = 0 + (↑y.fst : Int).toNat) then Go.IntKind.u64.wrap (y.snd.fst (0 + (↑y.fst : Int).toNat) + (4294967296 : Int)) else y.snd.fst (0 + (↑y.fst : Int).toNat)) - y.snd.snd.fst) else bif Decidable.decide (i = 0 + (↑y.fst : Int).toNat) then Go.IntKind.u64.wrap (y.snd.fst (0 + (↑y.fst : Int).toNat) + (4294967296 : Int)) else y.snd.fst i) = y'.snd.fst i) ∧ n - y'.fst < n - y.fst) ∧ (Decidable.decide (y.snd.fst (0 + (↑y.fst : Int).toNat) < y.snd.snd.fst) = Bool.false → ((0 : Int) ≤ (↑y.fst : Int) ∧ (↑y.fst : Int) < (↑n : Int)) ∧ 0 + (↑y.fst : Int).toNat < n ∧ ((0 : Int) ≤ (↑y.fst : Int) ∧ (↑y.fst : Int) < (↑n : Int)) ∧ 0 + (↑y.fst : Int).toNat < n ∧ ∃ (y' : Nat × (Nat → Int) × Int × Nat), (P y'.fst y'.snd.fst y'.snd.snd.fst ∧ y'.fst ≤ n) ∧ (b = b ∧ m = m ∧ d = d ∧ ∀ (i : Nat), i < m → h i = h i) ∧ (0 = 0 ∧ 1 = 1 ∧ 0 = 0 ∧ n = n ∧ n + y.snd.snd.snd = n + y'.snd.snd.snd) ∧ (0 : Int) = y'.snd.snd.fst ∧ (↑n : Int) = (↑n : Int) ∧ Go.IntKind.i64.wrap ((↑y.fst : Int) + (1 : Int)) = (↑y'.fst : Int) ∧ n = n ∧ y.snd.snd.snd = y'.snd.snd.snd ∧ (∀ (i : Nat), i < n → (bif Decidable.decide (i = 0 + (↑y.fst : Int).toNat) then Go.IntKind.u64.wrap (y.snd.fst (0 + (↑y.fst : Int).toNat) - y.snd.snd.fst) else y.snd.fst i) = y'.snd.fst i) ∧ n - y'.fst < n - y.fst))) ∧ (Decidable.decide ((↑y.fst : Int) < (↑n : Int)) = Bool.false → x1 ≤ n ∧ n = n ∧ n ≤ n + y.snd.snd.snd ∧ ∀ (i : Nat), i < n → y.snd.fst (0 + i) = r i)) := by kernel_rfl
theorem vc_shorn (a : Option Addr) (n c : Nat) (f : Nat → Int) (P : Nat → Prop) (k : Nat) (r : Nat → Int) :
    OwesR Try.prog cxR [] [(1, .inv (invShorn f P))] 4 Try.f68 [xsI a n c .u64 f] true [.s k .u64 r] =
    ((∀ (y : Option Go.Addr × Nat × Nat), closedB (slotsAt 21 [(0, SV.one (xsI y.fst y.snd.fst y.snd.snd Go.IntKind.u64 f))]) [] = Bool.true) ∧ ∃ (y : Option Go.Addr × Nat × Nat), P y.snd.fst ∧ (a = y.fst ∧ n = y.snd.fst ∧ c = y.snd.snd ∧ ∀ (i : Nat), i < n → f i = f i) ∧ ∀ (y : Option Go.Addr × Nat × Nat), P y.snd.fst → (Decidable.decide ((↑y.snd.fst : Int) > (0 : Int)) = Bool.true → Decidable.decide ((↑y.snd.fst : Int) > (0 : Int)) = Bool.true) ∧ (Decidable.decide ((↑y.snd.fst : Int) > (0 : Int)) = Bool.true → Decidable.decide ((↑y.snd.fst : Int) > (0 : Int)) = Bool.true) ∧ (Decidable.decide ((↑y.snd.fst : Int) > (0 : Int)) = Bool.true → Decidable.decide ((↑y.snd.fst : Int) > (0 : Int)) = Bool.true) ∧ (Decidable.decide ((↑y.snd.fst : Int) > (0 : Int)) = Bool.true → Decidable.decide ((↑y.snd.fst : Int) > (0 : Int)) = Bool.true) ∧ (Decidable.decide ((↑y.snd.fst : Int) > (0 : Int)) = Bool.true → (0 : Int) ≤ Go.IntKind.i64.wrap ((↑y.snd.fst : Int) - (1 : Int)) ∧ Go.IntKind.i64.wrap ((↑y.snd.fst : Int) - (1 : Int)) < (↑y.snd.fst : Int)) ∧ (Decidable.decide ((↑y.snd.fst : Int) > (0 : Int)) = Bool.true → Decidable.decide ((↑y.snd.fst : Int) > (0 : Int)) = Bool.true) ∧ (Decidable.decide ((↑y.snd.fst : Int) > (0 : Int)) = Bool.true → Decidable.decide ((↑y.snd.fst : Int) > (0 : Int)) = Bool.true) ∧ (Decidable.decide ((↑y.snd.fst : Int) > (0 : Int)) = Bool.true → Decidable.decide ((↑y.snd.fst : Int) > (0 : Int)) = Bool.true) ∧ ((Decidable.decide ((↑y.snd.fst : Int) > (0 : Int)) && f (Go.IntKind.i64.wrap ((↑y.snd.fst : Int) - (1 : Int))).toNat == (0 : Int)) = Bool.true → ((0 : Int) ≤ Go.IntKind.i64.wrap ((↑y.snd.fst : Int) - (1 : Int)) ∧ Go.IntKind.i64.wrap ((↑y.snd.fst : Int) - (1 : Int)) ≤ (↑y.snd.fst : Int)) ∧ ∃ (y' : Option Go.Addr × Nat × Nat), P y'.snd.fst ∧ (y.fst = y'.fst ∧ (Go.IntKind.i64.wrap ((↑y.snd.fst : Int) - (1 : Int))).toNat = y'.snd.fst ∧ y.snd.snd = y'.snd.snd ∧ ∀ (i : Nat), i < (Go.IntKind.i64.wrap ((↑y.snd.fst : Int) - (1 : Int))).toNat → f i = f i) ∧ y'.snd.fst < y.snd.fst) ∧ ((Decidable.decide ((↑y.snd.fst : Int) > (0 : Int)) && f (Go.IntKind.i64.wrap ((↑y.snd.fst : Int) - (1 : Int))).toNat == (0 : Int)) = Bool.false → y.snd.fst = k ∧ ∀ (i : Nat), i < k → f i = r i)) := by kernel_rfl
theorem vc_small (a : Option Addr) (n c : Nat) (f : Nat → Int) (x : Int) (z : Bool) :
    OwesR Try.prog cxR slShorn [] 4 Try.f67 [xsI a n c .u64 f] false [.v (sI .u64 x), .v (sB z)] =
    (let x1 : Int := (↑(lenDg (vn n fun (i : Nat) => f i)) : Int); (∀ (_ : Nat), True) ∧ (dgs n fun (i : Nat) => intsC (SC.val (Go.Value.int Go.IntKind.u64 (f i)))) ∧ n ≤ 1000 ∧ ∀ (a : Option Go.Addr) (cap : Nat), (a = Option.none → lenDg (vn n fun (i : Nat) => f i) = 0 ∧ cap = 0) → lenDg (vn n fun (i : Nat) => f i) ≤ cap → ((x1 == (0 : Int)) = Bool.true → (0 : Int) = x ∧ Bool.true = z) ∧ ((x1 == (0 : Int)) = Bool.false → ((0 : Int) ≤ (0 : Int) ∧ (0 : Int) < x1) ∧ dg (vn n fun (i : Nat) => f i) 0 = x ∧ (x1 == (1 : Int)) = z)) := by kernel_rfl
theorem vc_dTimes (a : Option Addr) (n c : Nat) (f : Nat → Int) (b : Option Addr) (m d : Nat) (h : Nat → Int) (P : Nat → (Nat → Int) → Prop) (Q : Nat → Nat → (Nat → Int) → Int → Prop) (r : Nat → Int) :
    OwesR Try.prog cxR [] [(3, .inv (invTi a n c f b m d h P)), (7, .invR (invTj a n c f b m d h Q) (fun y z => z.1 = y.1))] 4 Try.f60 [xsI a n c .u64 f, xsI b m d .u64 h] false [.s (n + m) .u64 r] =
    (let x1 : Int := Go.IntKind.i64.wrap ((↑n : Int) + (↑m : Int)); let x2 : Nat := n + m; let x3 : Nat := x1.toNat; let x4 : Nat := (x3 - x3) * 1; let x5 : Int := (↑x2 : Int); ((0 : Int) ≤ x1 ∧ x1 ≤ x1 ∧ (8 : Int) * x1 ≤ (281474976710656 : Int) ∧ x1 ≤ (9223372036854775807 : Int)) ∧ (∀ (y : Nat × (Nat → Int)), closedB (slotsAt 63 [(0, SV.one (xsI a n c Go.IntKind.u64 f)), (1, SV.one (xsI b m d Go.IntKind.u64 h)), (5, SV.one (SA.sc (SC.slw 0 1 0 x2 x2))), (18, SV.one (xsI a n c Go.IntKind.u64 f)), (19, SV.one (sI Go.IntKind.i64 (↑n : Int))), (20, SV.one (sI Go.IntKind.i64 (↑y.fst : Int)))]) [SO.row (22 : Go.TypeId) 1 x2 (r64 y.snd) 0] = Bool.true) ∧ ∃ (y : Nat × (Nat → Int)), (P y.fst y.snd ∧ y.fst ≤ n) ∧ (a = a ∧ n = n ∧ c = c ∧ ∀ (i : Nat), i < n → f i = f i) ∧ (b = b ∧ m = m ∧ d = d ∧ ∀ (i : Nat), i < m → h i = h i) ∧ (0 = 0 ∧ ([(0 : Int) ≤ x1 ∧ x1 ≤ x1 ∧ (8 : Int) * x1 ≤ (281474976710656 : Int) ∧ x1 ≤ (9223372036854775807 : Int)], 1, [] ++ [SO.row 22 1 x3 (fun (x c : Nat) => (flat (List.map litC (Go.Value.int Go.IntKind.u64 (0 : Int)).cells.toList)).getD c (SC.bit Bool.false)) x4]).snd.fst = 1 ∧ 0 = 0 ∧ x3 = x2 ∧ x3 = x2) ∧ (a = a ∧ n = n ∧ c = c ∧ ∀ (i : Nat), i < n → f i = f i) ∧ (↑n : Int) = (↑n : Int) ∧ (0 : Int) = (↑y.fst : Int) ∧ x3 = x2 ∧ x4 = 0 ∧ (∀ (i : Nat), i < x3 → (0 : Int) = y.snd i) ∧ ∀ (y : Nat × (Nat → Int)), P y.fst y.snd ∧ y.fst ≤ n → (Decidable.decide ((↑y.fst : Int) < (↑n : Int)) = Bool.true → ((0 : Int) ≤ (↑y.fst : Int) ∧ (↑y.fst : Int) < (↑n : Int)) ∧ (∀ (y : Nat × Nat × (Nat → Int) × Int), closedB (slotsAt 63 [(0, SV.one (xsI a n c Go.IntKind.u64 f)), (1, SV.one (xsI b m d Go.IntKind.u64 h)), (5, SV.one (SA.sc (SC.slw 0 1 0 x2 x2))), (18, SV.one (xsI a n c Go.IntKind.u64 f)), (19, SV.one (sI Go.IntKind.i64 (↑n : Int))), (20, SV.one (sI Go.IntKind.i64 (↑y.fst : Int))), (6, SV.one (sI Go.IntKind.i64 (↑y.fst : Int))), (7, SV.one (sI Go.IntKind.u64 (f y.fst))), (8, SV.one (sI Go.IntKind.u64 y.snd.snd.snd)), (25, SV.one (xsI b m d Go.IntKind.u64 h)), (26, SV.one (sI Go.IntKind.i64 (↑m : Int))), (27, SV.one (sI Go.IntKind.i64 (↑y.snd.fst : Int)))]) [SO.row (22 : Go.TypeId) 1 x2 (r64 y.snd.snd.fst) 0] = Bool.true) ∧ ∃ (y0 : Nat × Nat × (Nat → Int) × Int), ((Q y0.fst y0.snd.fst y0.snd.snd.fst y0.snd.snd.snd ∧ y0.fst < n ∧ y0.snd.fst ≤ m) ∧ y0.fst = y0.fst) ∧ (a = a ∧ n = n ∧ c = c ∧ ∀ (i : Nat), i < n → f i = f i) ∧ (b = b ∧ m = m ∧ d = d ∧ ∀ (i : Nat), i < m → h i = h i) ∧ (0 = 0 ∧ 1 = 1 ∧ 0 = 0 ∧ x2 = x2 ∧ x2 = x2) ∧ (↑y.fst : Int) = (↑y0.fst : Int) ∧ f (↑y.fst : Int).toNat = f y0.fst ∧ (0 : Int) = y0.snd.snd.snd ∧ (a = a ∧ n = n ∧ c = c ∧ ∀ (i : Nat), i < n → f i = f i) ∧ (↑n : Int) = (↑n : Int) ∧ (↑y.fst : Int) = (↑y0.fst : Int) ∧ (b = b ∧ m = m ∧ d = d ∧ ∀ (i : Nat), i < m → h i = h i) ∧ (↑m : Int) = (↑m : Int) ∧ (0 : Int) = (↑y0.snd.fst : Int) ∧ x2 = x2 ∧ 0 = 0 ∧ (∀ (i : Nat), i < x2 → y.snd i = y0.snd.snd.fst i) ∧ ∀ (y_1 : Nat × Nat × (Nat → Int) × Int), Q y_1.fst y_1.snd.fst y_1.snd.snd.fst y_1.snd.snd.snd ∧ y_1.fst < n ∧ y_1.snd.fst ≤ m → y_1.fst = y0.fst → (Decidable.decide ((↑y_1.snd.fst : Int) < (↑m : Int)) = Bool.true → ((0 : Int) ≤ (↑y_1.snd.fst : Int) ∧ (↑y_1.snd.fst : Int) < (↑m : Int)) ∧ ((0 : Int) ≤ Go.IntKind.i64.wrap ((↑y_1.fst : Int) + (↑y_1.snd.fst : Int)) ∧ Go.IntKind.i64.wrap ((↑y_1.fst : Int) + (↑y_1.snd.fst : Int)) < x5) ∧ 0 + (Go.IntKind.i64.wrap ((↑y_1.fst : Int) + (↑y_1.snd.fst : Int))).toNat < x2 ∧ ((0 : Int) ≤ Go.IntKind.i64.wrap ((↑y_1.fst : Int) + (↑y_1.snd.fst : Int)) ∧ Go.IntKind.i64.wrap ((↑y_1.fst : Int) + (↑y_1.snd.fst : Int)) < x5) ∧ 0 + (Go.IntKind.i64.wrap ((↑y_1.fst : Int) + (↑y_1.snd.fst : Int))).toNat < x2 ∧ ∃ (y' : Nat × Nat × (Nat → Int) × Int), ((Q y'.fst y'.snd.fst y'.snd.snd.fst y'.snd.snd.snd ∧ y'.fst < n ∧ y'.snd.fst ≤ m) ∧ y'.fst = y0.fst) ∧ (a = a ∧ n = n ∧ c = c ∧ ∀ (i : Nat), i < n → f i = f i) ∧ (b = b ∧ m = m ∧ d = d ∧ ∀ (i : Nat), i < m → h i = h i) ∧ (0 = 0 ∧ 1 = 1 ∧ 0 = 0 ∧ x2 = x2 ∧ x2 = x2) ∧ (↑y_1.fst : Int) = (↑y'.fst : Int) ∧ f y_1.fst = f y'.fst ∧ Go.IntKind.u64.wrap ((Go.IntKind.u64.wrap (Go.IntKind.u64.wrap (Go.IntKind.u64.wrap (f y_1.fst * h (↑y_1.snd.fst : Int).toNat) + y_1.snd.snd.fst (0 + (Go.IntKind.i64.wrap ((↑y_1.fst : Int) + (↑y_1.snd.fst : Int))).toNat)) + y_1.snd.snd.snd)).tdiv (4294967296 : Int)) = y'.snd.snd.snd ∧ (a = a ∧ n = n ∧ c = c ∧ ∀ (i : Nat), i < n → f i = f i) ∧ (↑n : Int) = (↑n : Int) ∧ (↑y_1.fst : Int) = (↑y'.fst : Int) ∧ (b = b ∧ m = m ∧ d = d ∧ ∀ (i : Nat), i < m → h i = h i) ∧ (↑m : Int) = (↑m : Int) ∧ Go.IntKind.i64.wrap ((↑y_1.snd.fst : Int) + (1 : Int)) = (↑y'.snd.fst : Int) ∧ x2 = x2 ∧ 0 = 0 ∧ (∀ (i : Nat), i < x2 → (bif Decidable.decide (i = 0 + (Go.IntKind.i64.wrap ((↑y_1.fst : Int) + (↑y_1.snd.fst : Int))).toNat) then (Go.IntKind.u64.wrap (Go.IntKind.u64.wrap (Go.IntKind.u64.wrap (f y_1.fst * h (↑y_1.snd.fst : Int).toNat) + y_1.snd.snd.fst (0 + (Go.IntKind.i64.wrap ((↑y_1.fst : Int) + (↑y_1.snd.fst : Int))).toNat)) + y_1.snd.snd.snd)).tmod (4294967296 : Int) else y_1.snd.snd.fst i) = y'.snd.snd.fst i) ∧ m - y'.snd.fst < m - y_1.snd.fst) ∧ (Decidable.decide ((↑y_1.snd.fst : Int) < (↑m : Int)) = Bool.false → ((0 : Int) ≤ Go.IntKind.i64.wrap ((↑y_1.fst : Int) + (↑m : Int)) ∧ Go.IntKind.i64.wrap ((↑y_1.fst : Int) + (↑m : Int)) < x5) ∧ 0 + (Go.IntKind.i64.wrap ((↑y_1.fst : Int) + (↑m : Int))).toNat < x2 ∧ ∃ (y' : Nat × (Nat → Int)), (P y'.fst y'.snd ∧ y'.fst ≤ n) ∧ (a = a ∧ n = n ∧ c = c ∧ ∀ (i : Nat), i < n → f i = f i) ∧ (b = b ∧ m = m ∧ d = d ∧ ∀ (i : Nat), i < m → h i = h i) ∧ (0 = 0 ∧ 1 = 1 ∧ 0 = 0 ∧ x2 = x2 ∧ x2 = x2) ∧ (a = a ∧ n = n ∧ c = c ∧ ∀ (i : Nat), i < n → f i = f i) ∧ (↑n : Int) = (↑n : Int) ∧ Go.IntKind.i64.wrap ((↑y_1.fst : Int) + (1 : Int)) = (↑y'.fst : Int) ∧ x2 = x2 ∧ 0 = 0 ∧ (∀ (i : Nat), i < x2 → (bif Decidable.decide (i = 0 + (Go.IntKind.i64.wrap ((↑y_1.fst : Int) + (↑m : Int))).toNat) then y_1.snd.snd.snd else y_1.snd.snd.fst i) = y'.snd i) ∧ n - y'.fst < n - y.fst)) ∧ (Decidable.decide ((↑y.fst : Int) < (↑n : Int)) = Bool.false → 0 + x2 ≤ x2 ∧ x2 = x2 ∧ x2 ≤ x2 ∧ ∀ (i : Nat), i < x2 → y.snd (0 + i) = r i)) := by kernel_rfl
end Go.Proofs.Yteimeidpcgebkaa
end

section
namespace Go.Proofs.Yteimeidpcgebkaa
open Go Go.Sx Go.RowKit
theorem wrap64 {x : Int} (h : 0 ≤ x ∧ x < 18446744073709551616) : IntKind.u64.wrap x = x := by rw [IntKind.wrap_u64]; omega
theorem wrapi {x : Int} (h : -9223372036854775808 ≤ x ∧ x < 9223372036854775808) : IntKind.i64.wrap x = x := by rw [IntKind.wrap_i64]; omega
theorem maxLen_eq : maxLen = 9223372036854775807 := rfl
theorem plus_round {a : Option Addr} {n c : Nat} {f : Nat → Int} {b : Option Addr} {m d : Nat} {h : Nat → Int} {X Y i c1 : Nat} {g : Nat → Int} {k s : Int} {M : Nat} (hM : M = max n m) (hn : n ≤ 1000) (hm : m ≤ 1000) (hP : PlusP X Y i g k) (hi : i < M) (hs : s = k + dg X i + dg Y i) (hc : i + 1 + c1 ≤ maxLen) :
    ∃ y' : Nat × (Nat → Int) × Int × Nat, (PlusP X Y y'.1 y'.2.1 y'.2.2.1 ∧ y'.1 ≤ M ∧ y'.1 + y'.2.2.2 ≤ maxLen) ∧ (a = a ∧ n = n ∧ c = c ∧ ∀ i, i < n → f i = f i) ∧ (b = b ∧ m = m ∧ d = d ∧ ∀ i, i < m → h i = h i) ∧ (1 = 1 ∧ 1 = 1 ∧ 0 = 0 ∧ i + 1 = y'.1 ∧ i + 1 + c1 = y'.1 + y'.2.2.2) ∧ IntKind.u64.wrap (s.tdiv 4294967296) = y'.2.2.1 ∧ IntKind.i64.wrap ((i : Int) + 1) = (y'.1 : Int) ∧ i + 1 = y'.1 ∧ c1 * 1 = y'.2.2.2 ∧ (∀ j, j < i + 1 → (bif decide (j < i) then g j else s.tmod 4294967296) = y'.2.1 j) ∧ M - y'.1 < M - i := by
  refine ⟨(i + 1, _, _, c1), ⟨hP.step hs, by show i + 1 ≤ M; omega, hc⟩, ⟨rfl, rfl, rfl, fun _ _ => rfl⟩, ⟨rfl, rfl, rfl, fun _ _ => rfl⟩, ⟨rfl, rfl, rfl, rfl, rfl⟩, rfl, ?_, rfl, Nat.mul_one _, fun _ _ => rfl, by show M - (i + 1) < M - i; omega⟩
  rw [wrapi (by omega)]
  rfl
theorem plus_first {a : Option Addr} {n c : Nat} {f : Nat → Int} {b : Option Addr} {m d : Nat} {h : Nat → Int} {X Y c1 : Nat} {s : Int} {M : Nat} (hi : 0 < M) (hs : s = dg X 0 + dg Y 0) (hc : 1 + c1 ≤ maxLen) :
    ∃ y' : Nat × (Nat → Int) × Int × Nat, (PlusP X Y y'.1 y'.2.1 y'.2.2.1 ∧ y'.1 ≤ M ∧ y'.1 + y'.2.2.2 ≤ maxLen) ∧ (a = a ∧ n = n ∧ c = c ∧ ∀ i, i < n → f i = f i) ∧ (b = b ∧ m = m ∧ d = d ∧ ∀ i, i < m → h i = h i) ∧ (1 = 1 ∧ 1 = 1 ∧ 0 = 0 ∧ 1 = y'.1 ∧ 1 + c1 = y'.1 + y'.2.2.2) ∧ IntKind.u64.wrap (s.tdiv 4294967296) = y'.2.2.1 ∧ (1 : Int) = (y'.1 : Int) ∧ 1 = y'.1 ∧ c1 * 1 = y'.2.2.2 ∧ (∀ j, j < 1 → s.tmod 4294967296 = y'.2.1 j) ∧ True := by
  refine ⟨(1, _, _, c1), ⟨(PlusP.start X Y fun _ => 0).step (s := s) (by rw [hs]; omega), hi, hc⟩, ⟨rfl, rfl, rfl, fun _ _ => rfl⟩, ⟨rfl, rfl, rfl, fun _ _ => rfl⟩, ⟨rfl, rfl, rfl, rfl, rfl⟩, rfl, rfl, rfl, Nat.mul_one _, fun j hj => ?_, trivial⟩
  show _ = (bif decide (j < 0) then (0 : Int) else s.tmod 4294967296)
  simp
theorem ok_dPlus (a : Option Addr) (n c : Nat) (f : Nat → Int) (b : Option Addr) (m d : Nat) (h : Nat → Int) (hf : dgs n f) (hn : n ≤ 1000) (hh : dgs m h) (hm : m ≤ 1000) :
    OwesR Try.prog cxR [] [(4, .inv1 (invPlus a n c f b m d h (PlusP (vn n f) (vn m h))))] 4 Try.f30 [xsI a n c .u64 f, xsI b m d .u64 h] false [.s (max n m + 1) .u64 (dg (vn n f + vn m h))] := by
  rw [vc_dPlus]
  have hfi : ∀ i, i < n → f i = dg (vn n f) i := fun i hi => dg_in hf hi
  have hfo : ∀ i, n ≤ i → dg (vn n f) i = 0 := fun i hi => dg_past hf hi
  have hhi : ∀ i, i < m → h i = dg (vn m h) i := fun i hi => dg_in hh hi
  have hho : ∀ i, m ≤ i → dg (vn m h) i = 0 := fun i hi => dg_past hh hi
  have hXr := dg_range (vn n f)
  have hYr := dg_range (vn m h)
  have hX := vn_lt hf
  have hY := vn_lt hh
  generalize vn n f = X at *
  generalize vn m h = Y at *
  have hL := maxLen_eq
  obtain ⟨M, hM⟩ : ∃ M, M = max n m := ⟨_, rfl⟩
  rw [← hM]
  have hM1 : n ≤ M ∧ m ≤ M ∧ M ≤ 1000 := by omega
  have hXM : X < 4294967296 ^ M := Nat.lt_of_lt_of_le hX (Nat.pow_le_pow_right (by decide) hM1.1)
  have hYM : Y < 4294967296 ^ M := Nat.lt_of_lt_of_le hY (Nat.pow_le_pow_right (by decide) hM1.2.1)
  intro x1 x2 x3 x5 x7 x8 x9 x10
  refine ⟨fun y => rfl, fun ⟨i, g, k, sp⟩ ⟨hP, hi, hs⟩ => ?_, id, id, id, fun h => by rw [h]; rfl, fun hor => ⟨fun h1 => ⟨?_, fun h2 => ?_, fun h2 => ?_⟩, fun h1 => ⟨fun h2 => ?_, fun h2 => ?_⟩⟩, fun h0 => ?_⟩
  · have hP : PlusP X Y i g k := hP
    have hi : i ≤ M := hi
    have hs : i + sp ≤ maxLen := hs
    have hk := hP.c1
    have xr := hXr i
    have yr := hYr i
    have big : i + 1 ≤ maxLen ∧ (i + 1) * 8 ≤ 140737488355328 := by omega
    have cap : i ≤ i + sp ∧ i + sp ≤ maxLen ∧ (i + sp) * 1 = i * 1 + sp := by omega
    refine ⟨id, id, id, fun h => by rw [h]; rfl, fun hor => ⟨fun h1 => ⟨?_, fun h2 => ⟨?_, rfl, rfl, cap, big, fun c1 hc => ?_⟩, fun h2 => ⟨rfl, rfl, cap, big, fun c1 hc => ?_⟩⟩, fun h1 => ⟨fun h2 => ⟨?_, rfl, rfl, cap, big, fun c1 hc => ?_⟩, fun h2 => ?_⟩⟩, fun h0 => ⟨rfl, rfl, cap, big, fun c1 hc => ?_⟩⟩
    · have := of_decide_eq_true h1; exact ⟨by show (0 : Int) ≤ (i : Int); omega, this⟩
    · have := of_decide_eq_true h2; exact ⟨by show (0 : Int) ≤ (i : Int); omega, this⟩
    · have h1 : (i : Int) < (n : Int) := of_decide_eq_true h1
      have h2 : (i : Int) < (m : Int) := of_decide_eq_true h2
      refine plus_round (M := M) hM hn hm hP (by omega) ?_ hc
      simp only [Int.toNat_natCast]
      rw [hfi i (by omega), hhi i (by omega), wrap64 (x := k + dg X i) (by omega), wrap64 (by omega)]
    · have h1 : (i : Int) < (n : Int) := of_decide_eq_true h1
      have h2 : ¬ (i : Int) < (m : Int) := of_decide_eq_false h2
      refine plus_round (M := M) hM hn hm hP (by omega) ?_ hc
      simp only [Int.toNat_natCast]
      rw [hfi i (by omega), hho i (by omega), wrap64 (x := k + dg X i) (by omega), Int.add_zero]
    · have := of_decide_eq_true h2; exact ⟨by show (0 : Int) ≤ (i : Int); omega, this⟩
    · have h1 : ¬ (i : Int) < (n : Int) := of_decide_eq_false h1
      have h2 : (i : Int) < (m : Int) := of_decide_eq_true h2
      refine plus_round (M := M) hM hn hm hP (by omega) ?_ hc
      simp only [Int.toNat_natCast]
      rw [hhi i (by omega), hfo i (by omega), wrap64 (x := k + dg Y i) (by omega), Int.add_zero]
    · exfalso
      simp only at h1 h2 hor
      rw [h1, h2] at hor
      cases hor
    · have hor : (decide ((i : Int) < (n : Int)) || decide ((i : Int) < (m : Int))) = false := h0
      simp only [Bool.or_eq_false_iff, decide_eq_false_iff_not] at hor
      have e : i = M := by omega
      subst e
      refine ⟨by show 0 + (i + 1) ≤ i + 1; omega, rfl, by show i + 1 ≤ i + 1 + c1; omega, ?_⟩
      obtain ⟨q1, q2, q3⟩ := hP
      rw [Nat.mod_eq_of_lt hXM, Nat.mod_eq_of_lt hYM] at q3
      intro j hj
      have key := dg_eq (X := X + Y) (dgs_app (v := k) q1 (by omega)) (by rw [vz_app, q3, Int.natCast_add]) j hj
      rw [← key]
      show (bif decide (0 + j < i) then g (0 + j) else k) = _
      rw [Nat.zero_add]
  · have g1 : (0 : Int) < (n : Int) := of_decide_eq_true h1
    exact ⟨by omega, g1⟩
  · have g1 : (0 : Int) < (n : Int) := of_decide_eq_true h1
    have g2 : (0 : Int) < (m : Int) := of_decide_eq_true h2
    refine ⟨⟨by omega, g2⟩, by omega, fun c1 hc => ?_⟩
    refine plus_first (X := X) (Y := Y) (M := M) (s := x5) (by omega) ?_ hc
    have r1 := hXr 0
    have r2 := hYr 0
    simp only [x5, x3]
    rw [hfi 0 (by omega), hhi 0 (by omega), Int.zero_add, wrap64 (x := dg X 0) (by omega), wrap64 (by omega)]
  · have g1 : (0 : Int) < (n : Int) := of_decide_eq_true h1
    have g2 : ¬ (0 : Int) < (m : Int) := of_decide_eq_false h2
    refine ⟨by omega, fun c1 hc => ?_⟩
    refine plus_first (X := X) (Y := Y) (M := M) (s := x3) (by omega) ?_ hc
    have r1 := hXr 0
    simp only [x3]
    rw [hfi 0 (by omega), hho 0 (by omega), Int.zero_add, wrap64 (x := dg X 0) (by omega), Int.add_zero]
  · have g1 : ¬ (0 : Int) < (n : Int) := of_decide_eq_false h1
    have g2 : (0 : Int) < (m : Int) := of_decide_eq_true h2
    refine ⟨⟨by omega, g2⟩, by omega, fun c1 hc => ?_⟩
    refine plus_first (X := X) (Y := Y) (M := M) (s := x9) (by omega) ?_ hc
    have r1 := hYr 0
    simp only [x9]
    rw [hhi 0 (by omega), hfo 0 (by omega), Int.zero_add, wrap64 (x := dg Y 0) (by omega)]
  · exfalso
    rw [h1, h2] at hor
    cases hor
  · refine ⟨by omega, fun c1 hc => ?_⟩
    have h0 : (decide ((0 : Int) < (n : Int)) || decide ((0 : Int) < (m : Int))) = false := h0
    simp only [Bool.or_eq_false_iff, decide_eq_false_iff_not] at h0
    have e : M = 0 := by omega
    subst e
    have eX : X = 0 := by simpa using hXM
    have eY : Y = 0 := by simpa using hYM
    subst eX eY
    refine ⟨Nat.le_refl _, rfl, by omega, fun i hi => ?_⟩
    rw [dg_out (n := 0) (by decide) (by omega)]
end Go.Proofs.Yteimeidpcgebkaa
end
