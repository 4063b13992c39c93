/-
  A quotient of two words by one, half a word at a time: the numbers' side.
-/
import Derived.Test.YtbkdokofapbagaaP12
namespace Go.Proofs.Ytbkdokofapbagaa
open Go.Sx

/-! ## One digit -/
structure Dig (Y y1 y0 U w : Nat) : Prop where
  hY : Y = y1 * 4294967296 + y0
  h0 : y0 < 4294967296
  h1 : 2147483648 ≤ y1
  h1' : y1 < 4294967296
  hU : U < Y
  hw : w < 4294967296
structure DigAt (Y y1 y0 U w q r : Nat) : Prop extends Dig Y y1 y0 U w where
  hq : q * y1 + r = U
  hr : r < 4294967296
  hQ : (U * 4294967296 + w) / Y ≤ q
  hq' : q ≤ 4294967297
theorem Dig.pos {Y y1 y0 U w : Nat} (h : Dig Y y1 y0 U w) : 0 < Y := by have := h.hU; omega
theorem Dig.lt {Y y1 y0 U w : Nat} (h : Dig Y y1 y0 U w) : (U * 4294967296 + w) / Y < 4294967296 := by
  rw [Nat.div_lt_iff_lt_mul h.pos]
  have a := h.hU
  have b := h.hw
  omega
theorem Dig.start {Y y1 y0 U w : Nat} (h : Dig Y y1 y0 U w) : DigAt Y y1 y0 U w (U / y1) (U % y1) := by
  have hy := h.h1
  have hy' := h.h1'
  have hU := h.hU
  have hw := h.hw
  have hY := h.hY
  have h0 := h.h0
  have hp : 0 < y1 := by omega
  have hm := Nat.mod_lt U hp
  refine ⟨h, by rw [Nat.mul_comm]; exact Nat.div_add_mod U y1, by omega, ?_, ?_⟩
  · rw [Nat.le_div_iff_mul_le hp]
    have a := Nat.div_mul_le_self (U * 4294967296 + w) Y
    generalize (U * 4294967296 + w) / Y = Q at *
    have b : Q * Y = Q * y1 * 4294967296 + Q * y0 := by rw [hY, Nat.mul_add, Nat.mul_assoc]
    generalize Q * y1 = A at *
    generalize Q * y0 = B at *
    omega
  · have : U / y1 < 4294967298 := by
      rw [Nat.div_lt_iff_lt_mul hp]
      omega
    omega
theorem DigAt.mul {Y y1 y0 U w q r : Nat} (h : DigAt Y y1 y0 U w q r) : q * Y + r * 4294967296 = U * 4294967296 + q * y0 := by
  have hq := h.hq
  have : q * Y = q * y1 * 4294967296 + q * y0 := by rw [h.hY, Nat.mul_add, Nat.mul_assoc]
  generalize q * y1 = A at *
  omega
theorem DigAt.done {Y y1 y0 U w q r : Nat} (h : DigAt Y y1 y0 U w q r) (hc : q * y0 ≤ 4294967296 * r + w) : q = (U * 4294967296 + w) / Y := by
  have a := h.mul
  have hQ := h.hQ
  have : q ≤ (U * 4294967296 + w) / Y := by
    rw [Nat.le_div_iff_mul_le h.pos]
    omega
  exact Nat.le_antisymm this hQ
theorem DigAt.more {Y y1 y0 U w q r : Nat} (h : DigAt Y y1 y0 U w q r) (hc : 4294967296 ≤ q ∨ 4294967296 * r + w < q * y0) : (U * 4294967296 + w) / Y + 1 ≤ q := by
  rcases hc with hc | hc
  · exact Nat.le_trans h.lt hc
  · have a := h.mul
    rw [Nat.succ_le_iff, Nat.div_lt_iff_lt_mul h.pos]
    omega
theorem DigAt.pred {Y y1 y0 U w q r : Nat} (h : DigAt Y y1 y0 U w q r) (hc : 4294967296 ≤ q ∨ 4294967296 * r + w < q * y0) : (q - 1) * y1 + (r + y1) = U ∧ 1 ≤ q ∧ (U * 4294967296 + w) / Y ≤ q - 1 := by
  have a := h.more hc
  have hq := h.hq
  generalize (U * 4294967296 + w) / Y = Q at *
  obtain ⟨p, rfl⟩ : ∃ p, q = p + 1 := ⟨q - 1, by omega⟩
  rw [Nat.add_mul, Nat.one_mul] at hq
  rw [Nat.add_sub_cancel]
  refine ⟨by omega, by omega, by omega⟩
theorem DigAt.last {Y y1 y0 U w q r : Nat} (h : DigAt Y y1 y0 U w q r) (hc : 4294967296 ≤ q ∨ 4294967296 * r + w < q * y0) (hs : 4294967296 ≤ r + y1) : q - 1 = (U * 4294967296 + w) / Y := by
  obtain ⟨b, b1, b2⟩ := h.pred hc
  have c : (q - 1) * Y + (r + y1) * 4294967296 = U * 4294967296 + (q - 1) * y0 := by
    have : (q - 1) * Y = (q - 1) * y1 * 4294967296 + (q - 1) * y0 := by rw [h.hY, Nat.mul_add, Nat.mul_assoc]
    generalize (q - 1) * y1 = A at *
    omega
  have h0 := h.h0
  have hq' := h.hq'
  have d : (q - 1) * y0 ≤ 4294967296 * 4294967295 := Nat.mul_le_mul (by omega) (by omega)
  have : q - 1 ≤ (U * 4294967296 + w) / Y := by
    rw [Nat.le_div_iff_mul_le h.pos]
    generalize (q - 1) * Y = A at *
    generalize (q - 1) * y0 = B at *
    omega
  exact Nat.le_antisymm this b2
theorem DigAt.step {Y y1 y0 U w q r : Nat} (h : DigAt Y y1 y0 U w q r) (hc : 4294967296 ≤ q ∨ 4294967296 * r + w < q * y0) (hs : r + y1 < 4294967296) : DigAt Y y1 y0 U w (q - 1) (r + y1) := by
  obtain ⟨b, b1, b2⟩ := h.pred hc
  exact ⟨h.toDig, b, hs, b2, by have := h.hq'; omega⟩

/-- Two digits make the quotient. -/
theorem two_digits_of {Y U L H : Nat} (hY : 0 < Y) : (U * (H * H) + L) / Y = (U * H + L / H) / Y * H + ((U * H + L / H) % Y * H + L % H) / Y ∧ (U * (H * H) + L) % Y = ((U * H + L / H) % Y * H + L % H) % Y := by
  have e0 := Nat.div_add_mod L H
  have e : U * (H * H) + L = (U * H + L / H) * H + L % H := by
    rw [Nat.add_mul, Nat.mul_assoc, Nat.mul_comm (L / H), Nat.add_assoc, e0]
  rw [e]
  have d := Nat.div_add_mod (U * H + L / H) Y
  generalize U * H + L / H = A at *
  have e2 : A * H + L % H = (A % Y * H + L % H) + Y * (A / Y * H) := by
    have : A * H = Y * (A / Y * H) + A % Y * H := by
      conv => lhs; rw [← d]
      rw [Nat.add_mul, Nat.mul_assoc]
    omega
  rw [e2, Nat.add_mul_div_left _ _ hY, Nat.add_mul_mod_self_left]
  exact ⟨by rw [Nat.add_comm], rfl⟩
theorem two_digits {Y U L : Nat} (hY : 0 < Y) : (U * 18446744073709551616 + L) / Y = (U * 4294967296 + L / 4294967296) / Y * 4294967296 + ((U * 4294967296 + L / 4294967296) % Y * 4294967296 + L % 4294967296) / Y ∧
    (U * 18446744073709551616 + L) % Y = ((U * 4294967296 + L / 4294967296) % Y * 4294967296 + L % 4294967296) % Y := by
  have h := two_digits_of (Y := Y) (U := U) (L := L) (H := 4294967296) hY
  simp only [Nat.reduceMul] at h
  exact h

/-! ## The words moved -/
theorem len_two (y : Nat) (h0 : 0 < y) (h : y < 18446744073709551616) : ∃ s : Nat, s ≤ 63 ∧ 64 - lenN y = (s : Int) ∧ lenN y = ((64 - s : Nat) : Int) ∧ 9223372036854775808 ≤ y * 2 ^ s ∧ y * 2 ^ s < 18446744073709551616 := by
  have hy : y ≠ 0 := by omega
  have hb := (Nat.log2_lt hy (k := 64)).2 (by omega)
  obtain ⟨a, b⟩ := (Nat.log2_eq_iff hy).1 rfl
  refine ⟨63 - y.log2, by omega, ?_, ?_, ?_, ?_⟩
  · unfold lenN
    rw [Int.toNat_natCast, if_neg hy]
    omega
  · unfold lenN
    rw [Int.toNat_natCast, if_neg hy]
    omega
  · have := Nat.mul_le_mul_right (2 ^ (63 - y.log2)) a
    rw [← Nat.pow_add, show y.log2 + (63 - y.log2) = 63 by omega] at this
    exact this
  · have := Nat.mul_lt_mul_of_pos_right b (Nat.two_pow_pos (63 - y.log2))
    rw [← Nat.pow_add, show y.log2 + 1 + (63 - y.log2) = 64 by omega] at this
    exact this
theorem moved_all (h l y D E : Nat) (hDE : D * E = 18446744073709551616) (hl : l < 18446744073709551616) (hh : h < y) :
    h * D + l / E < y * D ∧ (h * 18446744073709551616 + l) * D = (h * D + l / E) * 18446744073709551616 + l * D % 18446744073709551616 ∧ l / E < D := by
  have hE : 0 < E := by rcases Nat.eq_zero_or_pos E with e | e; subst e; omega; exact e
  have hD : 0 < D := by rcases Nat.eq_zero_or_pos D with e | e; subst e; omega; exact e
  have hlE : l / E < D := by rw [Nat.div_lt_iff_lt_mul hE, hDE]; exact hl
  have e := Nat.div_add_mod l E
  have hm := Nat.mod_lt l hE
  have e2 : l * D = l / E * 18446744073709551616 + l % E * D := by
    conv => lhs; rw [← e]
    rw [Nat.add_mul, Nat.mul_comm E, Nat.mul_assoc, Nat.mul_comm E D, hDE]
  have e3 : l % E * D < 18446744073709551616 := by
    have := Nat.mul_lt_mul_of_pos_right hm hD
    rw [Nat.mul_comm E D, hDE] at this
    exact this
  refine ⟨?_, ?_, hlE⟩
  · have := Nat.mul_le_mul_right D (show h + 1 ≤ y by omega)
    rw [Nat.add_mul, Nat.one_mul] at this
    omega
  · rw [Nat.add_mul, Nat.add_mul, e2, Nat.mul_assoc, Nat.mul_comm 18446744073709551616 D, ← Nat.mul_assoc, Nat.mul_comm (l / E) 18446744073709551616, Nat.mul_add_mod, Nat.mod_eq_of_lt e3]
    omega
theorem div_moved (A y D : Nat) (hD : 0 < D) : A / y = A * D / (y * D) ∧ A % y = A * D % (y * D) / D := by
  refine ⟨(Nat.mul_div_mul_right A y hD).symm, ?_⟩
  rw [Nat.mul_mod_mul_right, Nat.mul_div_cancel _ hD]
end Go.Proofs.Ytbkdokofapbagaa
