/-
  The bytes of a number: the numbers' side.
-/
import Derived.Test.YtbkdokofapbagaaV4
import Derived.Test.YtbkdokofapbagaaC2
namespace Go.Proofs.Ytbkdokofapbagaa
open Go.Sx

theorem byte_cut (c m : Nat) (hm : m < 8) : c % 2 ^ 64 / 2 ^ (8 * m) % 256 = c / 2 ^ (8 * m) % 256 := by
  match m, hm with
  | 0, _ | 1, _ | 2, _ | 3, _ | 4, _ | 5, _ | 6, _ | 7, _ => all_goals (simp only [Nat.reduceMul, Nat.reducePow, Nat.pow_zero]; omega)
theorem u8_wrap (n : Nat) : IntKind.u8.wrap (n : Int) = ((n % 256 : Nat) : Int) := by
  unfold IntKind.wrap
  simp [IntKind.signed, IntKind.bits]
theorem byte_of (a i m j : Nat) (d : Int) (hm : m < 8) (hd : d = ((2 ^ (8 * m) : Nat) : Int)) (hj : j = 8 * i + m) : IntKind.u8.wrap ((limb a i).fdiv d) = by8 a j := by
  subst hd hj
  unfold limb by8
  rw [Int.fdiv_eq_ediv_of_nonneg _ (Int.natCast_nonneg _), ← Int.natCast_ediv, u8_wrap, byte_cut _ _ hm, Nat.div_div_eq_div_mul, ← Nat.pow_add]
  have : 64 * i + 8 * m = 8 * (8 * i + m) := by omega
  rw [this]

theorem ok_Bytes : ∀ a, Owes Try.prog [] [] 400 Try.f30 [sU a] (bytesG a) := by
  intro a
  rw [vc_Bytes]
  have h : ∀ i m j d, m < 8 → d = ((2 ^ (8 * m) : Nat) : Int) → j = 8 * i + m → IntKind.u8.wrap ((limb a i).fdiv d) = by8 a j := fun i m j d => byte_of a i m j d
  exact ⟨h 3 7 _ _ (by decide) rfl rfl,
    h 3 6 _ _ (by decide) rfl rfl,
    h 3 5 _ _ (by decide) rfl rfl,
    h 3 4 _ _ (by decide) rfl rfl,
    h 3 3 _ _ (by decide) rfl rfl,
    h 3 2 _ _ (by decide) rfl rfl,
    h 3 1 _ _ (by decide) rfl rfl,
    h 3 0 _ _ (by decide) rfl rfl,
    h 2 7 _ _ (by decide) rfl rfl,
    h 2 6 _ _ (by decide) rfl rfl,
    h 2 5 _ _ (by decide) rfl rfl,
    h 2 4 _ _ (by decide) rfl rfl,
    h 2 3 _ _ (by decide) rfl rfl,
    h 2 2 _ _ (by decide) rfl rfl,
    h 2 1 _ _ (by decide) rfl rfl,
    h 2 0 _ _ (by decide) rfl rfl,
    h 1 7 _ _ (by decide) rfl rfl,
    h 1 6 _ _ (by decide) rfl rfl,
    h 1 5 _ _ (by decide) rfl rfl,
    h 1 4 _ _ (by decide) rfl rfl,
    h 1 3 _ _ (by decide) rfl rfl,
    h 1 2 _ _ (by decide) rfl rfl,
    h 1 1 _ _ (by decide) rfl rfl,
    h 1 0 _ _ (by decide) rfl rfl,
    h 0 7 _ _ (by decide) rfl rfl,
    h 0 6 _ _ (by decide) rfl rfl,
    h 0 5 _ _ (by decide) rfl rfl,
    h 0 4 _ _ (by decide) rfl rfl,
    h 0 3 _ _ (by decide) rfl rfl,
    h 0 2 _ _ (by decide) rfl rfl,
    h 0 1 _ _ (by decide) rfl rfl,
    h 0 0 _ _ (by decide) rfl rfl, trivial⟩

theorem pow8_le (m : Nat) (hm : m < 8) : 2 ^ (8 * m) * 256 ≤ 18446744073709551616 := by
  have h : 2 ^ (8 * m) ≤ 2 ^ 56 := Nat.pow_le_pow_right (by decide) (by omega)
  omega
theorem or_step (x : Int) (y : Int) (m : Nat) (d : Int) (hx : 0 ≤ x ∧ x < d) (hy : 0 ≤ y ∧ y < 256) (hm : m < 8) (hd : d = ((2 ^ (8 * m) : Nat) : Int)) :
    IntKind.u64.wrap ((BitVec.ofInt 64 x ||| BitVec.ofInt 64 (IntKind.u64.wrap (IntKind.u64.wrap y * d))).toNat : Int) = x + y * d ∧ 0 ≤ x + y * d ∧ x + y * d < d * 256 := by
  subst hd
  obtain ⟨x, rfl⟩ := Int.eq_ofNat_of_zero_le hx.1
  obtain ⟨y, rfl⟩ := Int.eq_ofNat_of_zero_le hy.1
  have hx' : x < 2 ^ (8 * m) := Int.ofNat_lt.1 hx.2
  have hy' : y < 256 := by omega
  have hp := pow8_le m hm
  have hyd : y * 2 ^ (8 * m) + 2 ^ (8 * m) ≤ 2 ^ (8 * m) * 256 := by
    have : (y + 1) * 2 ^ (8 * m) ≤ 256 * 2 ^ (8 * m) := Nat.mul_le_mul_right _ (by omega)
    rw [Nat.add_mul, Nat.one_mul, Nat.mul_comm 256] at this
    exact this
  have hd0 : 0 < 2 ^ (8 * m) := Nat.two_pow_pos _
  generalize hD : 2 ^ (8 * m) = D at *
  have e0 : IntKind.u64.wrap (y : Int) = y := wrap_id ⟨by omega, by omega⟩
  have e1 : (y : Int) * (D : Int) = ((y * D : Nat) : Int) := (Int.natCast_mul y D).symm
  rw [e0, e1, wrap_id (n := ((y * D : Nat) : Int)) ⟨by omega, by omega⟩]
  have b1 : (BitVec.ofInt 64 (x : Int)).toNat = x := by rw [BitVec.toNat_ofInt]; omega
  have b2 : (BitVec.ofInt 64 ((y * D : Nat) : Int)).toNat = y * D := by rw [BitVec.toNat_ofInt]; omega
  rw [BitVec.toNat_or, b1, b2]
  have ho : x ||| y * D = y * D + x := by
    rw [Nat.or_comm, ← hD, Nat.mul_comm]
    exact (Nat.two_pow_add_eq_or_of_lt (by rw [hD]; exact hx') y).symm
  rw [ho, wrap_id ⟨by omega, by omega⟩]
  omega

theorem or_row (g : Nat → Int) (i : Nat) (h0 : 0 ≤ g i ∧ g i < 256) (h1 : 0 ≤ g (i - 1) ∧ g (i - 1) < 256) (h2 : 0 ≤ g (i - 2) ∧ g (i - 2) < 256) (h3 : 0 ≤ g (i - 3) ∧ g (i - 3) < 256)
    (h4 : 0 ≤ g (i - 4) ∧ g (i - 4) < 256) (h5 : 0 ≤ g (i - 5) ∧ g (i - 5) < 256) (h6 : 0 ≤ g (i - 6) ∧ g (i - 6) < 256) (h7 : 0 ≤ g (i - 7) ∧ g (i - 7) < 256) (r : Int)
    (hr : r = IntKind.u64.wrap ((BitVec.ofInt 64 (IntKind.u64.wrap ((BitVec.ofInt 64 (IntKind.u64.wrap ((BitVec.ofInt 64 (IntKind.u64.wrap ((BitVec.ofInt 64 (IntKind.u64.wrap ((BitVec.ofInt 64 (IntKind.u64.wrap ((BitVec.ofInt 64 (IntKind.u64.wrap ((BitVec.ofInt 64 (IntKind.u64.wrap ((BitVec.ofInt 64 (0 : Int) |||
      BitVec.ofInt 64 (IntKind.u64.wrap (IntKind.u64.wrap (g i) * 1))).toNat : Int)) |||
      BitVec.ofInt 64 (IntKind.u64.wrap (IntKind.u64.wrap (g (i - 1)) * 256))).toNat : Int)) |||
      BitVec.ofInt 64 (IntKind.u64.wrap (IntKind.u64.wrap (g (i - 2)) * 65536))).toNat : Int)) |||
      BitVec.ofInt 64 (IntKind.u64.wrap (IntKind.u64.wrap (g (i - 3)) * 16777216))).toNat : Int)) |||
      BitVec.ofInt 64 (IntKind.u64.wrap (IntKind.u64.wrap (g (i - 4)) * 4294967296))).toNat : Int)) |||
      BitVec.ofInt 64 (IntKind.u64.wrap (IntKind.u64.wrap (g (i - 5)) * 1099511627776))).toNat : Int)) |||
      BitVec.ofInt 64 (IntKind.u64.wrap (IntKind.u64.wrap (g (i - 6)) * 281474976710656))).toNat : Int)) |||
      BitVec.ofInt 64 (IntKind.u64.wrap (IntKind.u64.wrap (g (i - 7)) * 72057594037927936))).toNat : Int)) :
    r = g i + 256 * g (i - 1) + 65536 * g (i - 2) + 16777216 * g (i - 3) + 4294967296 * g (i - 4) + 1099511627776 * g (i - 5) + 281474976710656 * g (i - 6) + 72057594037927936 * g (i - 7) := by
  obtain ⟨e0, a0, b0⟩ := or_step 0 (g i) 0 1 (by decide) h0 (by decide) rfl
  rw [e0] at hr
  obtain ⟨e1, a1, b1⟩ := or_step _ (g (i - 1)) 1 256 ⟨a0, b0⟩ h1 (by decide) rfl
  rw [e1] at hr
  obtain ⟨e2, a2, b2⟩ := or_step _ (g (i - 2)) 2 65536 ⟨a1, b1⟩ h2 (by decide) rfl
  rw [e2] at hr
  obtain ⟨e3, a3, b3⟩ := or_step _ (g (i - 3)) 3 16777216 ⟨a2, b2⟩ h3 (by decide) rfl
  rw [e3] at hr
  obtain ⟨e4, a4, b4⟩ := or_step _ (g (i - 4)) 4 4294967296 ⟨a3, b3⟩ h4 (by decide) rfl
  rw [e4] at hr
  obtain ⟨e5, a5, b5⟩ := or_step _ (g (i - 5)) 5 1099511627776 ⟨a4, b4⟩ h5 (by decide) rfl
  rw [e5] at hr
  obtain ⟨e6, a6, b6⟩ := or_step _ (g (i - 6)) 6 281474976710656 ⟨a5, b5⟩ h6 (by decide) rfl
  rw [e6] at hr
  obtain ⟨e7, a7, b7⟩ := or_step _ (g (i - 7)) 7 72057594037927936 ⟨a6, b6⟩ h7 (by decide) rfl
  rw [e7] at hr
  rw [hr]
  omega

theorem fromN_join (g : Nat → Int) (h : byteOK 32 g) (r0 r1 r2 r3 : Int)
    (h0 : r0 = g 31 + 256 * g 30 + 65536 * g 29 + 16777216 * g 28 + 4294967296 * g 27 + 1099511627776 * g 26 + 281474976710656 * g 25 + 72057594037927936 * g 24)
    (h1 : r1 = g 23 + 256 * g 22 + 65536 * g 21 + 16777216 * g 20 + 4294967296 * g 19 + 1099511627776 * g 18 + 281474976710656 * g 17 + 72057594037927936 * g 16)
    (h2 : r2 = g 15 + 256 * g 14 + 65536 * g 13 + 16777216 * g 12 + 4294967296 * g 11 + 1099511627776 * g 10 + 281474976710656 * g 9 + 72057594037927936 * g 8)
    (h3 : r3 = g 7 + 256 * g 6 + 65536 * g 5 + 16777216 * g 4 + 4294967296 * g 3 + 1099511627776 * g 2 + 281474976710656 * g 1 + 72057594037927936 * g 0) :
    (0 ≤ r0 ∧ r0 < 18446744073709551616) ∧ (0 ≤ r1 ∧ r1 < 18446744073709551616) ∧ (0 ≤ r2 ∧ r2 < 18446744073709551616) ∧ (0 ≤ r3 ∧ r3 < 18446744073709551616) ∧ join r0 r1 r2 r3 = fromN g 32 := by
  have hb : ∀ j, j < 32 → ∃ b : Nat, g j = b ∧ b < 256 := fun j hj => ⟨(g j).toNat, by have := h j hj; omega, by have := h j hj; omega⟩
  obtain ⟨b0, e0, l0⟩ := hb 0 (by decide)
  obtain ⟨b1, e1, l1⟩ := hb 1 (by decide)
  obtain ⟨b2, e2, l2⟩ := hb 2 (by decide)
  obtain ⟨b3, e3, l3⟩ := hb 3 (by decide)
  obtain ⟨b4, e4, l4⟩ := hb 4 (by decide)
  obtain ⟨b5, e5, l5⟩ := hb 5 (by decide)
  obtain ⟨b6, e6, l6⟩ := hb 6 (by decide)
  obtain ⟨b7, e7, l7⟩ := hb 7 (by decide)
  obtain ⟨b8, e8, l8⟩ := hb 8 (by decide)
  obtain ⟨b9, e9, l9⟩ := hb 9 (by decide)
  obtain ⟨b10, e10, l10⟩ := hb 10 (by decide)
  obtain ⟨b11, e11, l11⟩ := hb 11 (by decide)
  obtain ⟨b12, e12, l12⟩ := hb 12 (by decide)
  obtain ⟨b13, e13, l13⟩ := hb 13 (by decide)
  obtain ⟨b14, e14, l14⟩ := hb 14 (by decide)
  obtain ⟨b15, e15, l15⟩ := hb 15 (by decide)
  obtain ⟨b16, e16, l16⟩ := hb 16 (by decide)
  obtain ⟨b17, e17, l17⟩ := hb 17 (by decide)
  obtain ⟨b18, e18, l18⟩ := hb 18 (by decide)
  obtain ⟨b19, e19, l19⟩ := hb 19 (by decide)
  obtain ⟨b20, e20, l20⟩ := hb 20 (by decide)
  obtain ⟨b21, e21, l21⟩ := hb 21 (by decide)
  obtain ⟨b22, e22, l22⟩ := hb 22 (by decide)
  obtain ⟨b23, e23, l23⟩ := hb 23 (by decide)
  obtain ⟨b24, e24, l24⟩ := hb 24 (by decide)
  obtain ⟨b25, e25, l25⟩ := hb 25 (by decide)
  obtain ⟨b26, e26, l26⟩ := hb 26 (by decide)
  obtain ⟨b27, e27, l27⟩ := hb 27 (by decide)
  obtain ⟨b28, e28, l28⟩ := hb 28 (by decide)
  obtain ⟨b29, e29, l29⟩ := hb 29 (by decide)
  obtain ⟨b30, e30, l30⟩ := hb 30 (by decide)
  obtain ⟨b31, e31, l31⟩ := hb 31 (by decide)
  simp only [fromN, Nat.sub_zero, Nat.reduceSub, e0, e1, e2, e3, e4, e5, e6, e7, e8, e9, e10, e11, e12, e13, e14, e15, e16, e17, e18, e19, e20, e21, e22, e23, e24, e25, e26, e27, e28, e29, e30, e31] at *
  clear h hb e0 e1 e2 e3 e4 e5 e6 e7 e8 e9 e10 e11 e12 e13 e14 e15 e16 e17 e18 e19 e20 e21 e22 e23 e24 e25 e26 e27 e28 e29 e30 e31
  have k0 : r0.toNat = b31 + 256 * b30 + 65536 * b29 + 16777216 * b28 + 4294967296 * b27 + 1099511627776 * b26 + 281474976710656 * b25 + 72057594037927936 * b24 := by omega
  have k1 : r1.toNat = b23 + 256 * b22 + 65536 * b21 + 16777216 * b20 + 4294967296 * b19 + 1099511627776 * b18 + 281474976710656 * b17 + 72057594037927936 * b16 := by omega
  have k2 : r2.toNat = b15 + 256 * b14 + 65536 * b13 + 16777216 * b12 + 4294967296 * b11 + 1099511627776 * b10 + 281474976710656 * b9 + 72057594037927936 * b8 := by omega
  have k3 : r3.toNat = b7 + 256 * b6 + 65536 * b5 + 16777216 * b4 + 4294967296 * b3 + 1099511627776 * b2 + 281474976710656 * b1 + 72057594037927936 * b0 := by omega
  refine ⟨by omega, by omega, by omega, by omega, ?_⟩
  unfold join
  rw [k0, k1, k2, k3]
  simp only [Nat.reducePow, Int.toNat_natCast]
  omega

theorem ok_From : ∀ g, byteOK 32 g → Owes Try.prog [] [] 400 Try.f31 [sBy 32 g] (fromG g) := by
  intro g hg
  rw [vc_From]
  intro x1 x2 x3 x4
  have hb : ∀ j, j < 32 → 0 ≤ g j ∧ g j < 256 := hg
  have e1 := or_row g 31 (hb _ (by decide)) (hb _ (by decide)) (hb _ (by decide)) (hb _ (by decide)) (hb _ (by decide)) (hb _ (by decide)) (hb _ (by decide)) (hb _ (by decide)) x1 rfl
  have e2 := or_row g 23 (hb _ (by decide)) (hb _ (by decide)) (hb _ (by decide)) (hb _ (by decide)) (hb _ (by decide)) (hb _ (by decide)) (hb _ (by decide)) (hb _ (by decide)) x2 rfl
  have e3 := or_row g 15 (hb _ (by decide)) (hb _ (by decide)) (hb _ (by decide)) (hb _ (by decide)) (hb _ (by decide)) (hb _ (by decide)) (hb _ (by decide)) (hb _ (by decide)) x3 rfl
  have e4 := or_row g 7 (hb _ (by decide)) (hb _ (by decide)) (hb _ (by decide)) (hb _ (by decide)) (hb _ (by decide)) (hb _ (by decide)) (hb _ (by decide)) (hb _ (by decide)) x4 rfl
  clear_value x1 x2 x3 x4
  obtain ⟨k0, k1, k2, k3, kj⟩ := fromN_join g hg x1 x2 x3 x4 e1 e2 e3 e4
  rw [kj]
  exact ⟨k0, k1, k2, k3, rfl, trivial⟩
theorem card_Bytes : FnOK Try.prog 30 (specU bytesG) :=
  FnOK_U CxOK_nil (iv := []) (N := 400) Try.func30 (by kernel_rfl) (by kernel_rfl) (fun a => by unfold bytesG; intro k hk; simp only [List.mem_singleton] at hk; subst hk; trivial) ok_Bytes
theorem card_From : FnOK Try.prog 31 (specB fromG) :=
  FnOK_B CxOK_nil (iv := []) (N := 400) Try.func31 (by kernel_rfl) (by kernel_rfl) (fun g => by unfold fromG; exact bnd_one (bnd_U _)) ok_From
end Go.Proofs.Ytbkdokofapbagaa
