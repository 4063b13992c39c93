/-
  Quotients: the long division, and the law.
-/
import Derived.Test.YtbkdokofapbagaaP20
namespace Go.Proofs.Ytbkdokofapbagaa
open Go.Sx

theorem M_pow : M256 = 2 ^ 256 := rfl
theorem horner_top {P x c0 c1 c2 c3 : Nat} (h : M256 * x + (((c3 * 18446744073709551616 + c2) * 18446744073709551616 + c1) * 18446744073709551616 + c0) = P) : P = (((x * 18446744073709551616 + c3) * 18446744073709551616 + c2) * 18446744073709551616 + c1) * 18446744073709551616 + c0 := by
  rw [M_val] at h
  exact Nat.le_antisymm (by omega) (by omega)
theorem ok_divide : ∀ a b : Nat, Ok (dvC a b) → Owes Try.prog cxDv [] 100 Try.f48 [sU a, sU b] (dvG a b) := by
  intro a b hc
  obtain ⟨hb0, _⟩ := hc
  rw [vc_divide]
  have hMp : 0 < M256 := by rw [M256_eq]; decide
  have hA : a % M256 < M256 := Nat.mod_lt _ hMp
  have hB : b % M256 < M256 := Nat.mod_lt _ hMp
  have hl := bitsN_le (n := b % M256) (k := 256) hB
  obtain ⟨hb1, hb2⟩ := bitsN_two (b % M256) (by omega)
  obtain ⟨s, hs⟩ : ∃ s, s = 256 - bitsN (b % M256) := ⟨_, rfl⟩
  have hs' : bitsN (b % M256) + s = 256 := by omega
  have hDE : 2 ^ (256 - s) * 2 ^ s = M256 := by rw [← Nat.pow_add, show 256 - s + s = 256 by omega]; rfl
  have hD := Nat.two_pow_pos s
  have hE := Nat.two_pow_pos (256 - s)
  rw [show bitsN (b % M256) = 256 - s by omega] at hb1 hb2
  have hYM : b % M256 * 2 ^ s < M256 := by
    exact Nat.lt_of_lt_of_eq (Nat.mul_lt_mul_of_pos_right hb1 hD) hDE
  have hYt : M256 ≤ 2 * (b % M256 * 2 ^ s) := by
    have := Nat.mul_le_mul_right (2 ^ s) hb2
    rw [hDE, Nat.mul_assoc] at this
    exact this
  have hY8 : b * 2 ^ s % M256 = b % M256 * 2 ^ s := (mod_mul_M b _).trans (Nat.mod_eq_of_lt hYM)
  have hxD : a % M256 / 2 ^ (256 - s) < 2 ^ s := by
    rw [Nat.div_lt_iff_lt_mul hE, Nat.mul_comm, hDE]
    exact hA
  have hxY : a % M256 / 2 ^ (256 - s) < b % M256 * 2 ^ s := Nat.lt_of_lt_of_le hxD (Nat.le_mul_of_pos_left _ hb0)
  obtain ⟨c0, h0, l0⟩ := limb_is (a * 2 ^ s) 0
  obtain ⟨c1, h1, l1⟩ := limb_is (a * 2 ^ s) 1
  obtain ⟨c2, h2, l2⟩ := limb_is (a * 2 ^ s) 2
  obtain ⟨c3, h3, l3⟩ := limb_is (a * 2 ^ s) 3
  have hH := horner_is (a * 2 ^ s) c0 c1 c2 c3 h0 h1 h2 h3
  have hN : a % M256 * 2 ^ s = (((a % M256 / 2 ^ (256 - s) * 18446744073709551616 + c3) * 18446744073709551616 + c2) * 18446744073709551616 + c1) * 18446744073709551616 + c0 := by
    refine horner_top ?_
    rw [← hH, mod_mul_M]
    have e : a % M256 / 2 ^ (256 - s) = a % M256 * 2 ^ s / M256 := by rw [← hDE, Nat.mul_div_mul_right _ _ hD]
    rw [e]
    exact Nat.div_add_mod _ _
  obtain ⟨v1, v2⟩ := div_moved (a % M256) (b % M256) (2 ^ s) hD
  have hYp : 0 < b % M256 * 2 ^ s := Nat.mul_pos hb0 hD
  obtain ⟨d1, d2⟩ := long_div 18446744073709551616 c0 c1 c2 (a % M256 / 2 ^ (256 - s) * 18446744073709551616 + c3) (b % M256 * 2 ^ s) hYp
  rw [← hN, ← v1] at d1
  rw [← hN] at d2
  rw [d2] at v2
  intro x1 x2 x3 x4 x5 x6 x7 x8 x9 x10 x11 x12 x13 x14 x15 x16 x17 x18 x19 x20 x21 x22
  have E2 : x2 = (s : Int) := by simp only [x2, x1, ← hs]
  have E3 : x3 = ((256 - s : Nat) : Int) := by
    simp only [x3, E2]
    rw [IntWalk.i64_in _ (by omega)]
    omega
  have E4 : x4 = 2 ^ s := by simp only [x4, E2, Int.toNat_natCast]
  have E5 : x5 = (c3 : Int) := by simp only [x5, E4]; exact h3
  have E9 : x9 = (c2 : Int) := by simp only [x9, E4]; exact h2
  have E12 : x12 = (c1 : Int) := by simp only [x12, E4]; exact h1
  have E15 : x15 = (c0 : Int) := by simp only [x15, E4]; exact h0
  have E7 : x7 = a % M256 / 2 ^ (256 - s) := by simp only [x7, x6, E3, Int.toNat_natCast]
  have E8 : x8 = b % M256 * 2 ^ s := by simp only [x8, E4]; exact hY8
  have hdig : ∀ r c : Nat, r < b % M256 * 2 ^ s → digR r (c : Int) = r * 18446744073709551616 + c := fun r c h => by
    unfold digR
    rw [Int.toNat_natCast, Nat.mod_eq_of_lt (Nat.lt_trans h hYM)]
  have E10 : x10 = a % M256 / 2 ^ (256 - s) * 18446744073709551616 + c3 := by simp only [x10, E7, E5]; exact hdig _ _ hxY
  have E11 : x11 = x10 % (b % M256 * 2 ^ s) := by simp only [x11, E8]
  have lt1 := Nat.mod_lt x10 hYp
  have ql3 := long_lt hYp hxY l3
  have E13 : x13 = x10 % (b % M256 * 2 ^ s) * 18446744073709551616 + c2 := by simp only [x13, E11, E9]; exact hdig _ _ lt1
  clear_value x10 x11
  have E14 : x14 = x13 % (b % M256 * 2 ^ s) := by simp only [x14, E8]
  have lt2 := Nat.mod_lt x13 hYp
  have ql2 := long_lt hYp lt1 l2
  have E16 : x16 = x13 % (b % M256 * 2 ^ s) * 18446744073709551616 + c1 := by simp only [x16, E14, E12]; exact hdig _ _ lt2
  have E17 : x17 = x16 % (b % M256 * 2 ^ s) := by simp only [x17, E8]
  have lt3 := Nat.mod_lt x16 hYp
  have ql1 := long_lt hYp lt2 l1
  have E18 : x18 = x16 % (b % M256 * 2 ^ s) * 18446744073709551616 + c0 := by simp only [x18, E17, E15]; exact hdig _ _ lt3
  have ql0 := long_lt hYp lt3 l0
  have E19 : x19 = ((x18 / (b % M256 * 2 ^ s) : Nat) : Int) := by simp only [x19, E8]
  have E20 : x20 = ((x16 / (b % M256 * 2 ^ s) : Nat) : Int) := by simp only [x20, E8]
  have E21 : x21 = ((x13 / (b % M256 * 2 ^ s) : Nat) : Int) := by simp only [x21, E8]
  have E22 : x22 = ((x10 / (b % M256 * 2 ^ s) : Nat) : Int) := by simp only [x22, E8]
  have E6 : x6 = a % M256 := rfl
  have E1 : x1 = b % M256 := rfl
  rw [← E10, ← E13, ← E16, ← E18] at d1 v2
  rw [← E10] at ql3
  rw [← E13] at ql2
  rw [← E16] at ql1
  rw [← E18] at ql0
  clear_value x22 x21 x20 x19 x18 x17 x16 x15 x14 x13 x12 x9 x8 x7 x6 x5 x4 x3 x2 x1
  rw [← E7, ← E8] at hxY
  rw [← E8] at hYM hYt
  rw [← E8] at E11 E14 E17 lt1 lt2 lt3 E19 E20 E21 E22 ql0 ql1 ql2 ql3 d1 v2
  rw [← E1] at v2 d1
  rw [← E6] at v2 d1
  rw [← E4] at v2
  have w : ∀ v : Nat, v < x8 → v % M256 < x8 := fun v hv => by rw [Nat.mod_eq_of_lt (Nat.lt_trans hv hYM)]; exact hv
  have h2 : (0 : Int) ≤ x2 ∧ x2 ≤ 256 := by rw [E2]; omega
  refine ⟨h2, by rw [E3]; omega, h2, by rw [E5]; exact word_nat l3, w _ hxY, hYt, by rw [E9]; exact word_nat l2, w _ (by rw [E11]; exact lt1), hYt, by rw [E12]; exact word_nat l1, w _ (by rw [E14]; exact lt2), hYt, by rw [E15]; exact word_nat l0, w _ (by rw [E17]; exact lt3), hYt, h2, ⟨by rw [E19]; exact word_nat ql0, by rw [E20]; exact word_nat ql1, by rw [E21]; exact word_nat ql2, by rw [E22]; exact word_nat ql3, ?_, trivial⟩, ?_, trivial⟩
  · rw [E19, E20, E21, E22, join_nat, d1]
  · rw [Nat.mod_eq_of_lt (Nat.lt_trans (Nat.mod_lt x18 (by omega)) hYM), v2]
theorem card_divide : FnOK Try.prog 48 (specUUC dvC dvG) :=
  FnOK_UUC (CxOK_cons card_noughts (CxOK_cons card_up (CxOK_cons card_down (CxOK_cons card_digit CxOK_nil)))) (iv := fun _ _ => []) (N := 100) Try.func48 (by kernel_rfl) (by kernel_rfl) (fun _ _ => bnd_two (bnd_U _) (bnd_U _)) ok_divide
end Go.Proofs.Ytbkdokofapbagaa
