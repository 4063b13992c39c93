/-
  Products: the numbers' side.
-/
import Derived.Test.YtbkdokofapbagaaV2
import Derived.Test.YtbkdokofapbagaaP2
namespace Go.Proofs.Ytbkdokofapbagaa
open Go.Sx

theorem wrap_id {n : Int} (h : 0 ≤ n ∧ n < 18446744073709551616) : IntKind.u64.wrap n = n := by
  unfold IntKind.wrap
  simp [IntKind.signed, IntKind.bits]
  omega

theorem limbs_int (a : Nat) : ((a % M256 : Nat) : Int) = limb a 0 + 18446744073709551616 * limb a 1 + 340282366920938463463374607431768211456 * limb a 2 + 6277101735386680763835789423207666416102355444464034512896 * limb a 3 := by
  obtain ⟨a0, a1, a2, a3, e0, e1, e2, e3, _, _, _, _, ha⟩ := split4 a
  rw [ha, e0, e1, e2, e3]
  omega
theorem mul_fin (a b : Nat) (c0 c1 c2 c3 c4 c5 c6 c7 : Int) (h0 : 0 ≤ c0 ∧ c0 < 18446744073709551616) (h1 : 0 ≤ c1 ∧ c1 < 18446744073709551616) (h2 : 0 ≤ c2 ∧ c2 < 18446744073709551616) (h3 : 0 ≤ c3 ∧ c3 < 18446744073709551616)
    (h4 : 0 ≤ c4 ∧ c4 < 18446744073709551616) (h5 : 0 ≤ c5 ∧ c5 < 18446744073709551616) (h6 : 0 ≤ c6 ∧ c6 < 18446744073709551616) (h7 : 0 ≤ c7 ∧ c7 < 18446744073709551616)
    (h : ((a % M256 : Nat) : Int) * ((b % M256 : Nat) : Int) = c0 + 18446744073709551616 * c1 + 340282366920938463463374607431768211456 * c2 + 6277101735386680763835789423207666416102355444464034512896 * c3 + 115792089237316195423570985008687907853269984665640564039457584007913129639936 * (c4 + 18446744073709551616 * c5 + 340282366920938463463374607431768211456 * c6 + 6277101735386680763835789423207666416102355444464034512896 * c7)) :
    join c0 c1 c2 c3 % M256 = a * b % M256 ∧ join c4 c5 c6 c7 % M256 = a % M256 * (b % M256) / M256 % M256 := by
  obtain ⟨c0, rfl⟩ := Int.eq_ofNat_of_zero_le h0.1
  obtain ⟨c1, rfl⟩ := Int.eq_ofNat_of_zero_le h1.1
  obtain ⟨c2, rfl⟩ := Int.eq_ofNat_of_zero_le h2.1
  obtain ⟨c3, rfl⟩ := Int.eq_ofNat_of_zero_le h3.1
  obtain ⟨c4, rfl⟩ := Int.eq_ofNat_of_zero_le h4.1
  obtain ⟨c5, rfl⟩ := Int.eq_ofNat_of_zero_le h5.1
  obtain ⟨c6, rfl⟩ := Int.eq_ofNat_of_zero_le h6.1
  obtain ⟨c7, rfl⟩ := Int.eq_ofNat_of_zero_le h7.1
  have hm := Nat.mul_mod a b M256
  rw [← Int.natCast_mul] at h
  generalize a % M256 * (b % M256) = g at h hm
  have e : g = join c0 c1 c2 c3 + M256 * join c4 c5 c6 c7 := by
    unfold join
    rw [M256_eq]
    simp only [Int.toNat_natCast, Nat.reducePow]
    omega
  have hlt : join c0 c1 c2 c3 < M256 := join_lt (by omega) (by omega) (by omega) (by omega)
  obtain ⟨k1, k2⟩ := divmod_of e hlt
  refine ⟨by rw [hm, k1, Nat.mod_eq_of_lt hlt], by rw [k2]⟩
theorem mac (X O P : Int) (hX : 0 ≤ X ∧ X ≤ 340282366920938463426481119284349108225) (hO : 0 ≤ O ∧ O < 18446744073709551616) (hP : 0 ≤ P ∧ P < 18446744073709551616) :
    X + O + P = (P + (X % 18446744073709551616 + O + 0) % 18446744073709551616 + 0) % 18446744073709551616 +
      18446744073709551616 * IntKind.u64.wrap (IntKind.u64.wrap (X / 18446744073709551616 + (X % 18446744073709551616 + O + 0) / 18446744073709551616) + (P + (X % 18446744073709551616 + O + 0) % 18446744073709551616 + 0) / 18446744073709551616) ∧
    (0 ≤ (P + (X % 18446744073709551616 + O + 0) % 18446744073709551616 + 0) % 18446744073709551616 ∧ (P + (X % 18446744073709551616 + O + 0) % 18446744073709551616 + 0) % 18446744073709551616 < 18446744073709551616) ∧
    (0 ≤ IntKind.u64.wrap (IntKind.u64.wrap (X / 18446744073709551616 + (X % 18446744073709551616 + O + 0) / 18446744073709551616) + (P + (X % 18446744073709551616 + O + 0) % 18446744073709551616 + 0) / 18446744073709551616) ∧
     IntKind.u64.wrap (IntKind.u64.wrap (X / 18446744073709551616 + (X % 18446744073709551616 + O + 0) / 18446744073709551616) + (P + (X % 18446744073709551616 + O + 0) % 18446744073709551616 + 0) / 18446744073709551616) < 18446744073709551616) := by
  have h1 : IntKind.u64.wrap (X / 18446744073709551616 + (X % 18446744073709551616 + O + 0) / 18446744073709551616) = X / 18446744073709551616 + (X % 18446744073709551616 + O + 0) / 18446744073709551616 := wrap_id (by omega)
  rw [h1, wrap_id (by omega)]
  omega
theorem limb_mul (a b : Nat) (i j : Nat) : 0 ≤ limb a i * limb b j ∧ limb a i * limb b j ≤ 340282366920938463426481119284349108225 := by
  have h1 := limb_nonneg a i
  have h2 := limb_nonneg b j
  have h3 := limb_lt a i
  have h4 := limb_lt b j
  refine ⟨Int.mul_nonneg h1 h2, ?_⟩
  have : limb a i * limb b j ≤ 18446744073709551615 * 18446744073709551615 := Int.mul_le_mul (by omega) (by omega) h2 (by decide)
  omega

/-- What the sixteen products come to, weighed. -/
theorem mul_weigh (a b c0 c1 c2 c3 c4 c5 c6 c7 : Int) (a0 a1 a2 a3 b0 b1 b2 b3 : Int) (ha : a = a0 + 18446744073709551616 * a1 + 340282366920938463463374607431768211456 * a2 + 6277101735386680763835789423207666416102355444464034512896 * a3)
    (hb : b = b0 + 18446744073709551616 * b1 + 340282366920938463463374607431768211456 * b2 + 6277101735386680763835789423207666416102355444464034512896 * b3)
    (h : a0 * b0 + 18446744073709551616 * (a0 * b1 + a1 * b0) + 340282366920938463463374607431768211456 * (a0 * b2 + a1 * b1 + a2 * b0) + 6277101735386680763835789423207666416102355444464034512896 * (a0 * b3 + a1 * b2 + a2 * b1 + a3 * b0) +
      115792089237316195423570985008687907853269984665640564039457584007913129639936 * (a1 * b3 + a2 * b2 + a3 * b1) + 2135987035920910082395021706169552114602704522356652769947041607822219725780640550022962086936576 * (a2 * b3 + a3 * b2) + 39402006196394479212279040100143613805079739270465446667948293404245721771497210611414266254884915640806627990306816 * (a3 * b3) =
      c0 + 18446744073709551616 * c1 + 340282366920938463463374607431768211456 * c2 + 6277101735386680763835789423207666416102355444464034512896 * c3 + 115792089237316195423570985008687907853269984665640564039457584007913129639936 * c4 + 2135987035920910082395021706169552114602704522356652769947041607822219725780640550022962086936576 * c5 + 39402006196394479212279040100143613805079739270465446667948293404245721771497210611414266254884915640806627990306816 * c6 + 726838724295606890549323807888004534353641360687318060281490199180639288113397923326191050713763565560762521606266177933534601628614656 * c7) :
    a * b = c0 + 18446744073709551616 * c1 + 340282366920938463463374607431768211456 * c2 + 6277101735386680763835789423207666416102355444464034512896 * c3 + 115792089237316195423570985008687907853269984665640564039457584007913129639936 * (c4 + 18446744073709551616 * c5 + 340282366920938463463374607431768211456 * c6 + 6277101735386680763835789423207666416102355444464034512896 * c7) := by
  subst ha hb
  simp only [Int.add_mul, Int.mul_add, Int.mul_assoc] at h ⊢
  have e : ∀ (x y : Int) (k : Int), x * (k * y) = k * (x * y) := fun x y k => Int.mul_left_comm x k y
  simp only [e a0, e a1, e a2, e a3] at h ⊢
  omega

set_option maxRecDepth 100000 in
theorem ok_Mul : ∀ a b, Owes Try.prog cxMul2 [] 100 Try.f25 [sU a, sU b] (mulG a b) := by
  intro a b
  rw [vc_Mul]
  have hm := limb_mul a b
  have h01 : (0 : Int) ≤ 1 := by decide
  have hz : (0 : Int) ≤ 0 ∧ (0 : Int) < 18446744073709551616 := by decide
  have hl : ∀ n i, (0 : Int) ≤ limb n i ∧ limb n i < 18446744073709551616 := fun n i => ⟨limb_nonneg n i, limb_lt n i⟩
  intro x1 x2 x3 x4 x5 x6 x7 x8 x9 x10 x11 x12 x13 x14 x15 x16 x17 x18 x19 x20 x21 x22 x23 x24 x25 x26 x27 x28 x29 x30 x31 x32 x33 x34 x35 x36 x37 x38 x39 x40 x41 x42 x43 x44 x45 x46 x47 x48 x49 x50 x51 x52 x53 x54 x55 x56 x57 x58 x59 x60 x61 x62 x63 x64 x65 x66 x67 x68 x69 x70 x71 x72 x73 x74 x75 x76 x77 x78 x79 x80 x81 x82 x83 x84 x85 x86 x87 x88 x89 x90 x91 x92 x93 x94 x95 x96 x97 x98 x99 x100 x101 x102 x103 x104 x105 x106 x107 x108 x109 x110 x111 x112
  obtain ⟨f0_0, p0_0, r0_0⟩ : x1 + 0 + 0 = x104 + 18446744073709551616 * x8 ∧ (0 ≤ x104 ∧ x104 < 18446744073709551616) ∧ (0 ≤ x8 ∧ x8 < 18446744073709551616) := mac x1 0 0 (hm 0 0) hz hz
  obtain ⟨f0_1, p0_1, r0_1⟩ : x5 + x8 + 0 = x25 + 18446744073709551616 * x14 ∧ (0 ≤ x25 ∧ x25 < 18446744073709551616) ∧ (0 ≤ x14 ∧ x14 < 18446744073709551616) := mac x5 x8 0 (hm 0 1) r0_0 hz
  obtain ⟨f0_2, p0_2, r0_2⟩ : x11 + x14 + 0 = x32 + 18446744073709551616 * x20 ∧ (0 ≤ x32 ∧ x32 < 18446744073709551616) ∧ (0 ≤ x20 ∧ x20 < 18446744073709551616) := mac x11 x14 0 (hm 0 2) r0_1 hz
  obtain ⟨f0_3, p0_3, r0_3⟩ : x17 + x20 + 0 = x40 + 18446744073709551616 * x47 ∧ (0 ≤ x40 ∧ x40 < 18446744073709551616) ∧ (0 ≤ x47 ∧ x47 < 18446744073709551616) := mac x17 x20 0 (hm 0 3) r0_2 hz
  obtain ⟨f1_0, p1_0, r1_0⟩ : x23 + 0 + x25 = x105 + 18446744073709551616 * x31 ∧ (0 ≤ x105 ∧ x105 < 18446744073709551616) ∧ (0 ≤ x31 ∧ x31 < 18446744073709551616) := mac x23 0 x25 (hm 1 0) hz p0_1
  obtain ⟨f1_1, p1_1, r1_1⟩ : x28 + x31 + x32 = x52 + 18446744073709551616 * x38 ∧ (0 ≤ x52 ∧ x52 < 18446744073709551616) ∧ (0 ≤ x38 ∧ x38 < 18446744073709551616) := mac x28 x31 x32 (hm 1 1) r1_0 p0_2
  obtain ⟨f1_2, p1_2, r1_2⟩ : x35 + x38 + x40 = x59 + 18446744073709551616 * x46 ∧ (0 ≤ x59 ∧ x59 < 18446744073709551616) ∧ (0 ≤ x46 ∧ x46 < 18446744073709551616) := mac x35 x38 x40 (hm 1 2) r1_1 p0_3
  obtain ⟨f1_3, p1_3, r1_3⟩ : x43 + x46 + x47 = x67 + 18446744073709551616 * x74 ∧ (0 ≤ x67 ∧ x67 < 18446744073709551616) ∧ (0 ≤ x74 ∧ x74 < 18446744073709551616) := mac x43 x46 x47 (hm 1 3) r1_2 r0_3
  obtain ⟨f2_0, p2_0, r2_0⟩ : x50 + 0 + x52 = x106 + 18446744073709551616 * x58 ∧ (0 ≤ x106 ∧ x106 < 18446744073709551616) ∧ (0 ≤ x58 ∧ x58 < 18446744073709551616) := mac x50 0 x52 (hm 2 0) hz p1_1
  obtain ⟨f2_1, p2_1, r2_1⟩ : x55 + x58 + x59 = x79 + 18446744073709551616 * x65 ∧ (0 ≤ x79 ∧ x79 < 18446744073709551616) ∧ (0 ≤ x65 ∧ x65 < 18446744073709551616) := mac x55 x58 x59 (hm 2 1) r2_0 p1_2
  obtain ⟨f2_2, p2_2, r2_2⟩ : x62 + x65 + x67 = x86 + 18446744073709551616 * x73 ∧ (0 ≤ x86 ∧ x86 < 18446744073709551616) ∧ (0 ≤ x73 ∧ x73 < 18446744073709551616) := mac x62 x65 x67 (hm 2 2) r2_1 p1_3
  obtain ⟨f2_3, p2_3, r2_3⟩ : x70 + x73 + x74 = x94 + 18446744073709551616 * x101 ∧ (0 ≤ x94 ∧ x94 < 18446744073709551616) ∧ (0 ≤ x101 ∧ x101 < 18446744073709551616) := mac x70 x73 x74 (hm 2 3) r2_2 r1_3
  obtain ⟨f3_0, p3_0, r3_0⟩ : x77 + 0 + x79 = x107 + 18446744073709551616 * x85 ∧ (0 ≤ x107 ∧ x107 < 18446744073709551616) ∧ (0 ≤ x85 ∧ x85 < 18446744073709551616) := mac x77 0 x79 (hm 3 0) hz p2_1
  obtain ⟨f3_1, p3_1, r3_1⟩ : x82 + x85 + x86 = x108 + 18446744073709551616 * x92 ∧ (0 ≤ x108 ∧ x108 < 18446744073709551616) ∧ (0 ≤ x92 ∧ x92 < 18446744073709551616) := mac x82 x85 x86 (hm 3 1) r3_0 p2_2
  obtain ⟨f3_2, p3_2, r3_2⟩ : x89 + x92 + x94 = x109 + 18446744073709551616 * x100 ∧ (0 ≤ x109 ∧ x109 < 18446744073709551616) ∧ (0 ≤ x100 ∧ x100 < 18446744073709551616) := mac x89 x92 x94 (hm 3 2) r3_1 p2_3
  obtain ⟨f3_3, p3_3, r3_3⟩ : x97 + x100 + x101 = x111 + 18446744073709551616 * x112 ∧ (0 ≤ x111 ∧ x111 < 18446744073709551616) ∧ (0 ≤ x112 ∧ x112 < 18446744073709551616) := mac x97 x100 x101 (hm 3 3) r3_2 r2_3
  have n_x2 : 0 ≤ x2 := Int.emod_nonneg _ (by decide)
  have n_x4 : 0 ≤ x4 := Int.emod_nonneg _ (by decide)
  have n_x6 : 0 ≤ x6 := Int.emod_nonneg _ (by decide)
  have n_x10 : 0 ≤ x10 := Int.emod_nonneg _ (by decide)
  have n_x12 : 0 ≤ x12 := Int.emod_nonneg _ (by decide)
  have n_x16 : 0 ≤ x16 := Int.emod_nonneg _ (by decide)
  have n_x18 : 0 ≤ x18 := Int.emod_nonneg _ (by decide)
  have n_x22 : 0 ≤ x22 := Int.emod_nonneg _ (by decide)
  have n_x24 : 0 ≤ x24 := Int.emod_nonneg _ (by decide)
  have n_x25 : 0 ≤ x25 := Int.emod_nonneg _ (by decide)
  have n_x27 : 0 ≤ x27 := Int.emod_nonneg _ (by decide)
  have n_x29 : 0 ≤ x29 := Int.emod_nonneg _ (by decide)
  have n_x32 : 0 ≤ x32 := Int.emod_nonneg _ (by decide)
  have n_x34 : 0 ≤ x34 := Int.emod_nonneg _ (by decide)
  have n_x36 : 0 ≤ x36 := Int.emod_nonneg _ (by decide)
  have n_x40 : 0 ≤ x40 := Int.emod_nonneg _ (by decide)
  have n_x42 : 0 ≤ x42 := Int.emod_nonneg _ (by decide)
  have n_x44 : 0 ≤ x44 := Int.emod_nonneg _ (by decide)
  have n_x49 : 0 ≤ x49 := Int.emod_nonneg _ (by decide)
  have n_x51 : 0 ≤ x51 := Int.emod_nonneg _ (by decide)
  have n_x52 : 0 ≤ x52 := Int.emod_nonneg _ (by decide)
  have n_x54 : 0 ≤ x54 := Int.emod_nonneg _ (by decide)
  have n_x56 : 0 ≤ x56 := Int.emod_nonneg _ (by decide)
  have n_x59 : 0 ≤ x59 := Int.emod_nonneg _ (by decide)
  have n_x61 : 0 ≤ x61 := Int.emod_nonneg _ (by decide)
  have n_x63 : 0 ≤ x63 := Int.emod_nonneg _ (by decide)
  have n_x67 : 0 ≤ x67 := Int.emod_nonneg _ (by decide)
  have n_x69 : 0 ≤ x69 := Int.emod_nonneg _ (by decide)
  have n_x71 : 0 ≤ x71 := Int.emod_nonneg _ (by decide)
  have n_x76 : 0 ≤ x76 := Int.emod_nonneg _ (by decide)
  have n_x78 : 0 ≤ x78 := Int.emod_nonneg _ (by decide)
  have n_x79 : 0 ≤ x79 := Int.emod_nonneg _ (by decide)
  have n_x81 : 0 ≤ x81 := Int.emod_nonneg _ (by decide)
  have n_x83 : 0 ≤ x83 := Int.emod_nonneg _ (by decide)
  have n_x86 : 0 ≤ x86 := Int.emod_nonneg _ (by decide)
  have n_x88 : 0 ≤ x88 := Int.emod_nonneg _ (by decide)
  have n_x90 : 0 ≤ x90 := Int.emod_nonneg _ (by decide)
  have n_x94 : 0 ≤ x94 := Int.emod_nonneg _ (by decide)
  have n_x96 : 0 ≤ x96 := Int.emod_nonneg _ (by decide)
  have n_x98 : 0 ≤ x98 := Int.emod_nonneg _ (by decide)
  have n_x103 : 0 ≤ x103 := Int.emod_nonneg _ (by decide)
  have n_x104 : 0 ≤ x104 := Int.emod_nonneg _ (by decide)
  have n_x105 : 0 ≤ x105 := Int.emod_nonneg _ (by decide)
  have n_x106 : 0 ≤ x106 := Int.emod_nonneg _ (by decide)
  have n_x107 : 0 ≤ x107 := Int.emod_nonneg _ (by decide)
  have n_x108 : 0 ≤ x108 := Int.emod_nonneg _ (by decide)
  have n_x109 : 0 ≤ x109 := Int.emod_nonneg _ (by decide)
  have n_x111 : 0 ≤ x111 := Int.emod_nonneg _ (by decide)
  have g0_0 : limb a 0 * limb b 0 = x1 := rfl
  have g0_1 : limb a 0 * limb b 1 = x5 := rfl
  have g0_2 : limb a 0 * limb b 2 = x11 := rfl
  have g0_3 : limb a 0 * limb b 3 = x17 := rfl
  have g1_0 : limb a 1 * limb b 0 = x23 := rfl
  have g1_1 : limb a 1 * limb b 1 = x28 := rfl
  have g1_2 : limb a 1 * limb b 2 = x35 := rfl
  have g1_3 : limb a 1 * limb b 3 = x43 := rfl
  have g2_0 : limb a 2 * limb b 0 = x50 := rfl
  have g2_1 : limb a 2 * limb b 1 = x55 := rfl
  have g2_2 : limb a 2 * limb b 2 = x62 := rfl
  have g2_3 : limb a 2 * limb b 3 = x70 := rfl
  have g3_0 : limb a 3 * limb b 0 = x77 := rfl
  have g3_1 : limb a 3 * limb b 1 = x82 := rfl
  have g3_2 : limb a 3 * limb b 2 = x89 := rfl
  have g3_3 : limb a 3 * limb b 3 = x97 := rfl
  clear_value x112 x111 x110 x109 x108 x107 x106 x105 x104 x103 x102 x101 x100 x99 x98 x97 x96 x95 x94 x93 x92 x91 x90 x89 x88 x87 x86 x85 x84 x83 x82 x81 x80 x79 x78 x77 x76 x75 x74 x73 x72 x71 x70 x69 x68 x67 x66 x65 x64 x63 x62 x61 x60 x59 x58 x57 x56 x55 x54 x53 x52 x51 x50 x49 x48 x47 x46 x45 x44 x43 x42 x41 x40 x39 x38 x37 x36 x35 x34 x33 x32 x31 x30 x29 x28 x27 x26 x25 x24 x23 x22 x21 x20 x19 x18 x17 x16 x15 x14 x13 x12 x11 x10 x9 x8 x7 x6 x5 x4 x3 x2 x1
  have hw := mul_weigh ((a % M256 : Nat) : Int) ((b % M256 : Nat) : Int) x104 x105 x106 x107 x108 x109 x111 x112 (limb a 0) (limb a 1) (limb a 2) (limb a 3) (limb b 0) (limb b 1) (limb b 2) (limb b 3) (limbs_int a) (limbs_int b)
    (by rw [g0_0, g0_1, g0_2, g0_3, g1_0, g1_1, g1_2, g1_3, g2_0, g2_1, g2_2, g2_3, g3_0, g3_1, g3_2, g3_3]; clear hm hl n_x2 n_x4 n_x6 n_x10 n_x12 n_x16 n_x18 n_x22 n_x24 n_x25 n_x27 n_x29 n_x32 n_x34 n_x36 n_x40 n_x42 n_x44 n_x49 n_x51 n_x52 n_x54 n_x56 n_x59 n_x61 n_x63 n_x67 n_x69 n_x71 n_x76 n_x78 n_x79 n_x81 n_x83 n_x86 n_x88 n_x90 n_x94 n_x96 n_x98 n_x103 n_x104 n_x105 n_x106 n_x107 n_x108 n_x109 n_x111; omega)
  obtain ⟨q1, q2⟩ := mul_fin a b x104 x105 x106 x107 x108 x109 x111 x112 p0_0 p1_0 p2_0 p3_0 p3_1 p3_2 p3_3 r3_3 hw
  have o_x8 := r0_0.1
  have o_x14 := r0_1.1
  have o_x20 := r0_2.1
  have o_x47 := r0_3.1
  have o_x31 := r1_0.1
  have o_x38 := r1_1.1
  have o_x46 := r1_2.1
  have o_x74 := r1_3.1
  have o_x58 := r2_0.1
  have o_x65 := r2_1.1
  have o_x73 := r2_2.1
  have o_x101 := r2_3.1
  have o_x85 := r3_0.1
  have o_x92 := r3_1.1
  have o_x100 := r3_2.1
  have o_x112 := r3_3.1
  exact ⟨⟨(limb_nonneg _ _), (limb_lt _ _)⟩, ⟨(limb_nonneg _ _), (limb_lt _ _)⟩, n_x2, hz.1, ⟨hz.1, h01⟩, hz.1, n_x4, ⟨hz.1, h01⟩, ⟨(limb_nonneg _ _), (limb_lt _ _)⟩, ⟨(limb_nonneg _ _), (limb_lt _ _)⟩, n_x6, r0_0.1, ⟨hz.1, h01⟩, hz.1, n_x10, ⟨hz.1, h01⟩, ⟨(limb_nonneg _ _), (limb_lt _ _)⟩, ⟨(limb_nonneg _ _), (limb_lt _ _)⟩, n_x12, r0_1.1, ⟨hz.1, h01⟩, hz.1, n_x16, ⟨hz.1, h01⟩, ⟨(limb_nonneg _ _), (limb_lt _ _)⟩, ⟨(limb_nonneg _ _), (limb_lt _ _)⟩, n_x18, r0_2.1, ⟨hz.1, h01⟩, hz.1, n_x22, ⟨hz.1, h01⟩, ⟨(limb_nonneg _ _), (limb_lt _ _)⟩, ⟨(limb_nonneg _ _), (limb_lt _ _)⟩, n_x24, hz.1, ⟨hz.1, h01⟩, p0_1.1, n_x27, ⟨hz.1, h01⟩, ⟨(limb_nonneg _ _), (limb_lt _ _)⟩, ⟨(limb_nonneg _ _), (limb_lt _ _)⟩, n_x29, r1_0.1, ⟨hz.1, h01⟩, p0_2.1, n_x34, ⟨hz.1, h01⟩, ⟨(limb_nonneg _ _), (limb_lt _ _)⟩, ⟨(limb_nonneg _ _), (limb_lt _ _)⟩, n_x36, r1_1.1, ⟨hz.1, h01⟩, p0_3.1, n_x42, ⟨hz.1, h01⟩, ⟨(limb_nonneg _ _), (limb_lt _ _)⟩, ⟨(limb_nonneg _ _), (limb_lt _ _)⟩, n_x44, r1_2.1, ⟨hz.1, h01⟩, r0_3.1, n_x49, ⟨hz.1, h01⟩, ⟨(limb_nonneg _ _), (limb_lt _ _)⟩, ⟨(limb_nonneg _ _), (limb_lt _ _)⟩, n_x51, hz.1, ⟨hz.1, h01⟩, p1_1.1, n_x54, ⟨hz.1, h01⟩, ⟨(limb_nonneg _ _), (limb_lt _ _)⟩, ⟨(limb_nonneg _ _), (limb_lt _ _)⟩, n_x56, r2_0.1, ⟨hz.1, h01⟩, p1_2.1, n_x61, ⟨hz.1, h01⟩, ⟨(limb_nonneg _ _), (limb_lt _ _)⟩, ⟨(limb_nonneg _ _), (limb_lt _ _)⟩, n_x63, r2_1.1, ⟨hz.1, h01⟩, p1_3.1, n_x69, ⟨hz.1, h01⟩, ⟨(limb_nonneg _ _), (limb_lt _ _)⟩, ⟨(limb_nonneg _ _), (limb_lt _ _)⟩, n_x71, r2_2.1, ⟨hz.1, h01⟩, r1_3.1, n_x76, ⟨hz.1, h01⟩, ⟨(limb_nonneg _ _), (limb_lt _ _)⟩, ⟨(limb_nonneg _ _), (limb_lt _ _)⟩, n_x78, hz.1, ⟨hz.1, h01⟩, p2_1.1, n_x81, ⟨hz.1, h01⟩, ⟨(limb_nonneg _ _), (limb_lt _ _)⟩, ⟨(limb_nonneg _ _), (limb_lt _ _)⟩, n_x83, r3_0.1, ⟨hz.1, h01⟩, p2_2.1, n_x88, ⟨hz.1, h01⟩, ⟨(limb_nonneg _ _), (limb_lt _ _)⟩, ⟨(limb_nonneg _ _), (limb_lt _ _)⟩, n_x90, r3_1.1, ⟨hz.1, h01⟩, p2_3.1, n_x96, ⟨hz.1, h01⟩, ⟨(limb_nonneg _ _), (limb_lt _ _)⟩, ⟨(limb_nonneg _ _), (limb_lt _ _)⟩, n_x98, r3_2.1, ⟨hz.1, h01⟩, r2_3.1, n_x103, ⟨hz.1, h01⟩, ⟨⟨p0_0.1, p0_0.2⟩, ⟨p1_0.1, p1_0.2⟩, ⟨p2_0.1, p2_0.2⟩, ⟨p3_0.1, p3_0.2⟩, q1, trivial⟩, ⟨p3_1.1, p3_1.2⟩, ⟨p3_2.1, p3_2.2⟩, ⟨p3_3.1, p3_3.2⟩, ⟨r3_3.1, r3_3.2⟩, q2, trivial⟩
end Go.Proofs.Ytbkdokofapbagaa
