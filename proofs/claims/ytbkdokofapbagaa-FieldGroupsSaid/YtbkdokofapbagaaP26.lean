/-
  Package field: one bit; the product.
-/
import Derived.Test.YtbkdokofapbagaaP25
namespace Go.Proofs.Ytbkdokofapbagaa
open Go.Sx

theorem ok_bit : ∀ n : Int, Ok (bitC n) → Owes Try.prog [] [] 100 Try.f68 [sI .i64 n] (bitG n) := by
  intro n hc
  obtain ⟨hn, _⟩ := hc
  rw [vc_bit]
  obtain ⟨p, t, hnp, ht, hp, y1, y2, y3, y4⟩ := n_parts (n := n) ⟨hn.1, by omega⟩
  have hp3 : p ≤ 3 := by omega
  have ht63 : 2 ^ t < 18446744073709551616 := Nat.lt_of_le_of_lt (Nat.pow_le_pow_right (by decide) ht) (by decide)
  intro x1 x2 x3 x4 x5 x6 x7
  have E1 : x1 = (p : Int) := y1
  have E2 : x2 = p := by simp only [x2, E1]; exact Int.toNat_natCast _
  have E3 : x3 = ((2 ^ t : Nat) : Int) := by
    simp only [x3, y2]
    rw [two_min t (by omega), Int.one_mul]
    exact wrap_id (word_nat ht63)
  have w := word_nat ht63
  rw [y2, hnp, Int.toNat_natCast, two_split]
  have hE : ∀ i : Nat, (if i = x2 then x3 else (0 : Int)) = ((if i = p then 2 ^ t else 0 : Nat) : Int) := fun i => by
    rw [E2, E3]
    split <;> rfl
  have hb : ∀ i : Nat, (0 : Int) ≤ ((if i = p then 2 ^ t else 0 : Nat) : Int) ∧ ((if i = p then 2 ^ t else 0 : Nat) : Int) < 18446744073709551616 := fun i => word_nat (by split; exact ht63; decide)
  have E4 : x4 = ((if 0 = p then 2 ^ t else 0 : Nat) : Int) := hE 0
  have E5 : x5 = ((if 1 = p then 2 ^ t else 0 : Nat) : Int) := hE 1
  have E6 : x6 = ((if 2 = p then 2 ^ t else 0 : Nat) : Int) := hE 2
  have E7 : x7 = ((if 3 = p then 2 ^ t else 0 : Nat) : Int) := hE 3
  rw [E4, E5, E6, E7, E1, join_nat]
  refine ⟨nn _, ⟨nn _, by omega⟩, ⟨nn _, by omega⟩, hb 0, hb 1, hb 2, hb 3, ?_, trivial⟩
  refine congrArg (· % M256) ?_
  generalize 2 ^ t = d at *
  rcases (show p = 0 ∨ p = 1 ∨ p = 2 ∨ p = 3 by omega) with rfl | rfl | rfl | rfl
  · simp
  · simp
  · simp [Nat.mul_assoc]
  · simp [Nat.mul_assoc]
theorem card_bit : FnOK Try.prog 68 (specI bitC bitG) :=
  FnOK_I CxOK_nil (iv := fun _ => []) (N := 100) Try.func68 (by kernel_rfl) (by kernel_rfl) (fun _ => bnd_one (bnd_U _)) ok_bit

theorem prod_moved {a b m D E M : Nat} (hDE : D * E = M) (hM0 : 0 < M) (hEM : E < M) (hm : 0 < m) (hmD : m * D < M) : a * (b * D) % (m * D) % M * (E % M) / M % M = a * b % m % M := by
  have h1 : a * (b * D) % (m * D) = a * b % m * D := by rw [← Nat.mul_assoc, Nat.mul_mod_mul_right]
  have hr := Nat.mod_lt (a * b) hm
  have h2 : a * b % m * D < M := Nat.lt_of_le_of_lt (Nat.mul_le_mul_right D (Nat.le_of_lt hr)) hmD
  rw [h1, Nat.mod_eq_of_lt h2, Nat.mod_eq_of_lt hEM, Nat.mul_assoc, hDE, Nat.mul_div_cancel _ hM0]
theorem ok_product : ∀ a b m : Nat, Ok (prodC a b m) → Owes Try.prog cxProd [] 100 Try.f54 [sU a, sU b, sU m] (prodG a b m) := by
  intro a b m hc
  obtain ⟨ha, hb, _⟩ := hc
  rw [vc_product]
  have hMp : 0 < M256 := by rw [M256_eq]; decide
  have hM := Nat.mod_lt m hMp
  have hm0 : 0 < m % M256 := by omega
  have hl := bitsN_le (n := m % M256) (k := 256) hM
  obtain ⟨hb1, hb2⟩ := bitsN_two (m % M256) (by omega)
  have hl0 : 1 ≤ bitsN (m % M256) := by
    refine Nat.pos_of_ne_zero fun e => ?_
    rw [e] at hb1
    omega
  obtain ⟨s, hs⟩ : ∃ s, s = 256 - bitsN (m % M256) := ⟨_, rfl⟩
  have hs' : bitsN (m % M256) = 256 - s := by omega
  have hs2 : s ≤ 255 := by omega
  have hDE : 2 ^ s * 2 ^ (256 - s) = M256 := by rw [← Nat.pow_add, show s + (256 - s) = 256 by omega]; rfl
  have hD := Nat.two_pow_pos s
  rw [hs'] at hb1 hb2
  have hYM : m % M256 * 2 ^ s < M256 := Nat.lt_of_lt_of_eq (Nat.mul_lt_mul_of_pos_right hb1 hD) (by rw [Nat.mul_comm, hDE])
  have hYt : M256 ≤ 2 * (m % M256 * 2 ^ s) := by
    have := Nat.mul_le_mul_right (2 ^ s) hb2
    rw [Nat.mul_comm (2 ^ (256 - s)), hDE, Nat.mul_assoc] at this
    exact this
  intro x1 x2 x3 x4 x5 x6 x7 x8 x9
  have E1 : x1 = m % M256 := rfl
  have E2 : x2 = (s : Int) := by simp only [x2, x1, ← hs]
  have E3 : x3 = a % M256 := rfl
  have E4 : x4 = b % M256 := rfl
  have E5 : x5 = x3 * x4 % x1 % M256 := rfl
  have E6 : x6 = 2 ^ s := by simp only [x6, E2, Int.toNat_natCast]
  have E7 : x7 = m % M256 * 2 ^ s := by simp only [x7, E6]; exact (mod_mul_M m _).trans (Nat.mod_eq_of_lt hYM)
  have hbD : b % M256 * 2 ^ s < m % M256 * 2 ^ s := Nat.mul_lt_mul_of_pos_right hb hD
  have E8 : x8 = b % M256 * 2 ^ s := by simp only [x8, E6]; exact (mod_mul_M b _).trans (Nat.mod_eq_of_lt (Nat.lt_trans hbD hYM))
  have E9 : x9 = ((256 - s : Nat) : Int) := by
    simp only [x9, E2]
    rw [IntWalk.i64_in _ (by omega)]
    omega
  clear_value x9 x8 x7 x6 x5 x4 x3 x2 x1
  refine ⟨fun h => ?_, fun h => ?_⟩
  · have h0 : s = 0 := by
      have h := beq_iff_eq.1 h
      omega
    rw [h0, Nat.pow_zero, Nat.mul_one] at hYt
    exact ⟨by rw [E3, E1]; exact ha, by rw [E4, E1]; exact hb, by rw [E1]; exact hYt, rfl, trivial⟩
  · have h0 : 1 ≤ s := by
      have h := beq_eq_false_iff_ne.1 h
      omega
    have hEM : 2 ^ (256 - s) < M256 := by
      rw [M_pow]
      exact Nat.pow_lt_pow_right (by decide) (by omega)
    refine ⟨by rw [E2]; omega, by rw [E2]; omega, ?_, by rw [E8, E7]; exact hbD, by rw [E7]; exact hYt, by rw [E9]; omega, ?_, trivial⟩
    · rw [E3, E7]
      exact Nat.lt_of_lt_of_le ha (Nat.le_mul_of_pos_right _ hD)
    · rw [E9, Int.toNat_natCast, E8, E7, E5, E3, E4, E1]
      exact prod_moved hDE hMp hEM hm0 hYM
theorem card_product : FnOK Try.prog 54 (specUUU prodC prodG) :=
  FnOK_UUU (CxOK_cons card_fnoughts (CxOK_cons card_rest (CxOK_cons card_bit (CxOK_cons card_Mul CxOK_nil)))) (iv := fun _ _ _ => []) (N := 100) Try.func54 (by kernel_rfl) (by kernel_rfl) (fun _ _ _ => bnd_one (bnd_U _)) ok_product
end Go.Proofs.Ytbkdokofapbagaa
