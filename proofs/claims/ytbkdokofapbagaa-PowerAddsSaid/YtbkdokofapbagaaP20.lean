/-
  Quotients: one digit of a long division by four words.
-/
import Derived.Test.YtbkdokofapbagaaP19
namespace Go.Proofs.Ytbkdokofapbagaa
open Go.Sx

/-! ## How far a guess is off -/
theorem knuth {W K r3 r2 rr b3 bl B R g : Nat} (hB : B = b3 * K + bl) (hbl : bl < K) (hR : R = (r3 * W + r2) * K + rr) (hrr : rr < K) (hlt : R < B * W) (hb : W ≤ 2 * b3) (hr2 : r2 < W)
    (hg : g = if r3 < b3 then (r3 * W + r2) / b3 else W - 1) : R / B ≤ g ∧ g ≤ R / B + 2 ∧ g < W := by
  have hW : 0 < W := by omega
  have hb0 : 0 < b3 := by omega
  have hK : 0 < K := by omega
  have hBp : 0 < B := by
    have := Nat.mul_pos hb0 hK
    omega
  have hQ : R / B < W := by
    rw [Nat.div_lt_iff_lt_mul hBp, Nat.mul_comm]
    exact hlt
  have hgW : g < W := by
    rw [hg]
    split
    · rename_i h
      rw [Nat.div_lt_iff_lt_mul hb0, Nat.mul_comm W]
      have := Nat.mul_le_mul_right W (show r3 + 1 ≤ b3 from h)
      rw [Nat.add_mul, Nat.one_mul] at this
      omega
    · omega
  have hgb : g * b3 ≤ r3 * W + r2 := by
    rw [hg]
    split
    · exact Nat.div_mul_le_self _ _
    · rename_i h
      have h1 := Nat.mul_le_mul (show W - 1 ≤ W by omega) (show b3 ≤ r3 by omega)
      rw [Nat.mul_comm W r3] at h1
      omega
  have hqb : R / B * b3 ≤ r3 * W + r2 := by
    have h1 := Nat.div_mul_le_self R B
    generalize R / B = Q at *
    have h2 : Q * b3 * K ≤ R := by
      have : Q * B = Q * b3 * K + Q * bl := by rw [hB, Nat.mul_add, Nat.mul_assoc]
      omega
    have h3 : Q * b3 * K < (r3 * W + r2 + 1) * K := by
      rw [Nat.add_mul (r3 * W + r2), Nat.one_mul]
      omega
    exact Nat.lt_succ_iff.1 (Nat.lt_of_mul_lt_mul_right h3)
  refine ⟨?_, ?_, hgW⟩
  · rw [hg]
    split
    · rw [Nat.le_div_iff_mul_le hb0]
      exact hqb
    · omega
  · have d := Nat.div_add_mod R B
    have m := Nat.mod_lt R hBp
    have h1 : g * B = g * b3 * K + g * bl := by rw [hB, Nat.mul_add, Nat.mul_assoc]
    have h2 := Nat.mul_le_mul_right K hgb
    have h3 : g * bl ≤ W * K := Nat.mul_le_mul (by omega) (by omega)
    have h3' : g * bl < W * K := by
      rcases Nat.eq_zero_or_pos bl with e | e
      · rw [e, Nat.mul_zero]; exact Nat.mul_pos hW hK
      · exact Nat.lt_of_lt_of_le (Nat.mul_lt_mul_of_pos_right hgW e) (Nat.mul_le_mul_left W (by omega))
    have h4 := Nat.mul_le_mul_right K hb
    have h5 : 2 * b3 * K = 2 * (b3 * K) := Nat.mul_assoc _ _ _
    generalize R / B = Q at *
    have h6 : g * B < (Q + 3) * B := by
      rw [Nat.add_mul, Nat.mul_comm Q B]
      generalize g * b3 * K = A at *
      generalize (r3 * W + r2) * K = C at *
      generalize b3 * K = D at *
      generalize B * Q = E at *
      omega
    have := Nat.lt_of_mul_lt_mul_right h6
    omega

theorem top_of {r3 x6 x7 hi mrem Y P G : Nat} (h1 : P + mrem = r3 * 115792089237316195423570985008687907853269984665640564039457584007913129639936 + x6) (h2 : G = P + Y) (h3 : 115792089237316195423570985008687907853269984665640564039457584007913129639936 * hi + x7 = G) (h4 : x7 < 115792089237316195423570985008687907853269984665640564039457584007913129639936) (h5 : x6 < 115792089237316195423570985008687907853269984665640564039457584007913129639936) (h6 : hi < 18446744073709551616) (h7 : Y ≤ 2 * 115792089237316195423570985008687907853269984665640564039457584007913129639936) (h8 : mrem < 115792089237316195423570985008687907853269984665640564039457584007913129639936) (h9 : r3 < 18446744073709551616) :
    IntKind.u64.wrap ((r3 : Int) - IntKind.u64.wrap ((hi : Int) + if x6 < x7 then 1 else 0)) = (((115792089237316195423570985008687907853269984665640564039457584007913129639936 * 18446744073709551616 + mrem - Y) / 115792089237316195423570985008687907853269984665640564039457584007913129639936 % 18446744073709551616 : Nat) : Int) ∧ (x6 + 115792089237316195423570985008687907853269984665640564039457584007913129639936 - x7) % 115792089237316195423570985008687907853269984665640564039457584007913129639936 = (115792089237316195423570985008687907853269984665640564039457584007913129639936 * 18446744073709551616 + mrem - Y) % 115792089237316195423570985008687907853269984665640564039457584007913129639936 := by
  simp only [wrap_mod]
  split
  · rename_i h
    have e : 115792089237316195423570985008687907853269984665640564039457584007913129639936 * 18446744073709551616 + mrem - Y = 115792089237316195423570985008687907853269984665640564039457584007913129639936 * (18446744073709551616 + r3 - hi - 1) + (115792089237316195423570985008687907853269984665640564039457584007913129639936 + x6 - x7) := by omega
    rw [e]
    omega
  · rename_i h
    have e : 115792089237316195423570985008687907853269984665640564039457584007913129639936 * 18446744073709551616 + mrem - Y = 115792089237316195423570985008687907853269984665640564039457584007913129639936 * (18446744073709551616 + r3 - hi) + (x6 - x7) := by omega
    rw [e]
    omega
theorem top_step {mrem B e : Nat} (h1 : mrem < B) (h2 : B < 115792089237316195423570985008687907853269984665640564039457584007913129639936) (he : e ≤ 2) (h0 : e ≠ 0) :
    IntKind.u64.wrap ((((115792089237316195423570985008687907853269984665640564039457584007913129639936 * 18446744073709551616 + mrem - e * B) / 115792089237316195423570985008687907853269984665640564039457584007913129639936 % 18446744073709551616 : Nat) : Int) + (((115792089237316195423570985008687907853269984665640564039457584007913129639936 * 18446744073709551616 + mrem - e * B) % 115792089237316195423570985008687907853269984665640564039457584007913129639936 + B) / 115792089237316195423570985008687907853269984665640564039457584007913129639936 : Nat)) = (((115792089237316195423570985008687907853269984665640564039457584007913129639936 * 18446744073709551616 + mrem - (e - 1) * B) / 115792089237316195423570985008687907853269984665640564039457584007913129639936 % 18446744073709551616 : Nat) : Int) ∧ (115792089237316195423570985008687907853269984665640564039457584007913129639936 * 18446744073709551616 + mrem - e * B + B) = (115792089237316195423570985008687907853269984665640564039457584007913129639936 * 18446744073709551616 + mrem - (e - 1) * B) ∧ (115792089237316195423570985008687907853269984665640564039457584007913129639936 * 18446744073709551616 + mrem - e * B) / 115792089237316195423570985008687907853269984665640564039457584007913129639936 % 18446744073709551616 ≠ 0 := by
  simp only [wrap_mod]
  rcases (show e = 1 ∨ e = 2 by omega) with rfl | rfl
  · refine ⟨?_, ?_, ?_⟩ <;> omega
  · refine ⟨?_, ?_, ?_⟩ <;> omega
theorem top_zero {mrem B : Nat} (h1 : mrem < B) (h2 : B < 115792089237316195423570985008687907853269984665640564039457584007913129639936) : (115792089237316195423570985008687907853269984665640564039457584007913129639936 * 18446744073709551616 + mrem - 0 * B) / 115792089237316195423570985008687907853269984665640564039457584007913129639936 % 18446744073709551616 = 0 ∧ (115792089237316195423570985008687907853269984665640564039457584007913129639936 * 18446744073709551616 + mrem - 0 * B) % 115792089237316195423570985008687907853269984665640564039457584007913129639936 = mrem := by omega
def gN (h l y : Nat) : Nat := if h < y then (h * 18446744073709551616 + l) / y else 18446744073709551616 - 1
theorem guess_nat (h l y : Nat) : guessN (h : Int) (l : Int) (y : Int) = ((gN h l y : Nat) : Int) := by
  unfold guessN gN
  rcases Nat.lt_or_ge h y with c | c
  · rw [if_pos (by omega), if_pos c, Int.natCast_ediv, Int.natCast_add, Int.natCast_mul]
    rfl
  · rw [if_neg (by omega), if_neg (by omega)]
    rfl

theorem kn_all {r0 r1 r2 r3 y0 y1 y2 y3 X R B : Nat} (b0 : r0 < 18446744073709551616) (b1 : r1 < 18446744073709551616) (b2 : r2 < 18446744073709551616) (c0 : y0 < 18446744073709551616) (c1 : y1 < 18446744073709551616) (c2 : y2 < 18446744073709551616) (bX : X < 18446744073709551616)
    (hB : B = ((y3 * 18446744073709551616 + y2) * 18446744073709551616 + y1) * 18446744073709551616 + y0) (hR : R = (((r3 * 18446744073709551616 + r2) * 18446744073709551616 + r1) * 18446744073709551616 + r0) * 18446744073709551616 + X) (hrb : ((r3 * 18446744073709551616 + r2) * 18446744073709551616 + r1) * 18446744073709551616 + r0 < B) (hbt : 115792089237316195423570985008687907853269984665640564039457584007913129639936 ≤ 2 * B) :
    B = y3 * 6277101735386680763835789423207666416102355444464034512896 + ((y2 * 18446744073709551616 + y1) * 18446744073709551616 + y0) ∧ (y2 * 18446744073709551616 + y1) * 18446744073709551616 + y0 < 6277101735386680763835789423207666416102355444464034512896 ∧ R = (r3 * 18446744073709551616 + r2) * 6277101735386680763835789423207666416102355444464034512896 + ((r1 * 18446744073709551616 + r0) * 18446744073709551616 + X) ∧ (r1 * 18446744073709551616 + r0) * 18446744073709551616 + X < 6277101735386680763835789423207666416102355444464034512896 ∧ R < B * 18446744073709551616 ∧ 18446744073709551616 ≤ 2 * y3 ∧ R = r3 * 115792089237316195423570985008687907853269984665640564039457584007913129639936 + (((r2 * 18446744073709551616 + r1) * 18446744073709551616 + r0) * 18446744073709551616 + X) ∧ ((r2 * 18446744073709551616 + r1) * 18446744073709551616 + r0) * 18446744073709551616 + X < 115792089237316195423570985008687907853269984665640564039457584007913129639936 := by
  refine ⟨?_, ?_, ?_, ?_, ?_, ?_, ?_, ?_⟩
  · clear hR hrb hbt b0 b1 b2 bX; exact Nat.le_antisymm (by omega) (by omega)
  · clear hR hrb hbt hB b0 b1 b2 bX; omega
  · clear hB hrb hbt; exact Nat.le_antisymm (by omega) (by omega)
  · clear hR hB hrb hbt; omega
  · clear hB hbt; omega
  · clear hR hrb; omega
  · clear hB hrb hbt; exact Nat.le_antisymm (by omega) (by omega)
  · clear hR hB hrb hbt; omega

theorem ok_digit : ∀ (r : Nat) (x : Int) (b : Nat), Ok (digC r x b) → Owes Try.prog cxDig [(7, .inv (invDig r x b))] 100 Try.f64 [sU r, sI .u64 x, sU b] (digG r x b) := by
  intro r x b hc
  obtain ⟨hx, hrb, hbt, _⟩ := hc
  rw [vc_digit]
  obtain ⟨X, rfl⟩ := Int.eq_ofNat_of_zero_le hx.1
  have bX : X < 18446744073709551616 := Int.ofNat_lt.1 hx.2
  obtain ⟨r0, h0, b0⟩ := limb_is r 0
  obtain ⟨r1, h1, b1⟩ := limb_is r 1
  obtain ⟨r2, h2, b2⟩ := limb_is r 2
  obtain ⟨r3, h3, b3⟩ := limb_is r 3
  obtain ⟨y0, k0, c0⟩ := limb_is b 0
  obtain ⟨y1, k1, c1⟩ := limb_is b 1
  obtain ⟨y2, k2, c2⟩ := limb_is b 2
  obtain ⟨y3, k3, c3⟩ := limb_is b 3
  have hA := horner_is r r0 r1 r2 r3 h0 h1 h2 h3
  have hB := horner_is b y0 y1 y2 y3 k0 k1 k2 k3
  have hBM : b % M256 < M256 := Nat.mod_lt _ (by rw [M256_eq]; decide)
  have hT : ∀ e, digAt r (X : Int) b e = M256 * 18446744073709551616 + digR r (X : Int) % (b % M256) - e * (b % M256) := fun e => rfl
  have hR : digR r (X : Int) = r % M256 * 18446744073709551616 + X := by unfold digR; rw [Int.toNat_natCast]
  have hJ : join (X : Int) (limb r 0) (limb r 1) (limb r 2) % M256 = ((r2 * 18446744073709551616 + r1) * 18446744073709551616 + r0) * 18446744073709551616 + X := by
    rw [h0, h1, h2, join_nat, M_val]
    omega
  have hBg : ∀ g : Nat, b * g % M256 = b % M256 * g % M256 := fun g => mod_mul_M b g
  rw [h0, h1, h2] at hJ
  rw [M_val] at hA hB hBM hT hR hJ hBg hrb hbt
  have hbB : ∀ v : Nat, (v + b) % 115792089237316195423570985008687907853269984665640564039457584007913129639936 = (v + b % 115792089237316195423570985008687907853269984665640564039457584007913129639936) % 115792089237316195423570985008687907853269984665640564039457584007913129639936 := fun v => by rw [Nat.add_mod v b, Nat.add_mod v (b % 115792089237316195423570985008687907853269984665640564039457584007913129639936), Nat.mod_mod]
  rw [h0, h1, h2, h3, k3, M_val]
  intro x1 x2 x3 x4 x5 x6 x7
  have E1 : x1 = ((gN r3 r2 y3 : Nat) : Int) := guess_nat _ _ _
  have E5 : x5 = gN r3 r2 y3 := by simp only [x5, E1]; exact Int.toNat_natCast _
  have E6 : x6 = ((r2 * 18446744073709551616 + r1) * 18446744073709551616 + r0) * 18446744073709551616 + X := hJ
  have E7 : x7 = x2 * x5 % 115792089237316195423570985008687907853269984665640564039457584007913129639936 := by simp only [x7, x2]; exact hBg _
  have E3 : x3 = digR r (X : Int) / x2 := rfl
  have E2 : x2 = b % 115792089237316195423570985008687907853269984665640564039457584007913129639936 := rfl
  clear_value x7 x6 x5 x4 x3
  clear_value x1
  rw [← E2] at hB hBM hT hrb hbt hbB
  clear_value x2
  generalize digR r (X : Int) = R at *
  rw [hA] at hR hrb
  obtain ⟨n1, n2, n3, n4, n5, n6, n7, n8⟩ := kn_all b0 b1 b2 c0 c1 c2 bX hB hR hrb hbt
  obtain ⟨q1, q2, q3⟩ := knuth (W := 18446744073709551616) (K := 6277101735386680763835789423207666416102355444464034512896) (r3 := r3) (r2 := r2) (rr := (r1 * 18446744073709551616 + r0) * 18446744073709551616 + X) (b3 := y3) (bl := (y2 * 18446744073709551616 + y1) * 18446744073709551616 + y0) (B := x2) (R := R) (g := gN r3 r2 y3) n1 n2 n3 n4 n5 n6 b2 rfl
  rw [← E3] at q1 q2
  rw [← E5] at q1 q2 q3 E1
  have hBp : 0 < x2 := by omega
  have dm := Nat.div_add_mod R x2
  have ml := Nat.mod_lt R hBp
  rw [← E3] at dm
  have D3 := Nat.div_add_mod (x2 * x5) 115792089237316195423570985008687907853269984665640564039457584007913129639936
  have L3 := Nat.mod_lt (x2 * x5) (show 0 < 115792089237316195423570985008687907853269984665640564039457584007913129639936 by decide)
  have H6 : x2 * x5 / 115792089237316195423570985008687907853269984665640564039457584007913129639936 < 18446744073709551616 := by
    rw [Nat.div_lt_iff_lt_mul (by decide), Nat.mul_comm 18446744073709551616]
    exact Nat.mul_lt_mul'' hBM q3
  have hG : x2 * x5 = x2 * x3 + (x5 - x3) * x2 := by
    rw [Nat.mul_comm (x5 - x3), ← Nat.mul_add]
    congr 1
    omega
  have hY : (x5 - x3) * x2 ≤ 2 * 115792089237316195423570985008687907853269984665640564039457584007913129639936 := Nat.mul_le_mul (by omega) (by omega)
  rw [← E7] at D3 L3
  obtain ⟨t1, t2⟩ := top_of (r3 := r3) (x6 := x6) (x7 := x7) (hi := x2 * x5 / 115792089237316195423570985008687907853269984665640564039457584007913129639936) (mrem := R % x2) (Y := (x5 - x3) * x2) (P := x2 * x3) (G := x2 * x5) (by rw [dm, n7, E6]) hG D3 L3 (by rw [E6]; exact n8) H6 hY (Nat.lt_trans ml hBM) b3
  have step : ∀ e, e ≤ 2 → e ≠ 0 → IntKind.u64.wrap (((digAt r (X : Int) b e / 115792089237316195423570985008687907853269984665640564039457584007913129639936 % 18446744073709551616 : Nat) : Int) + ((digAt r (X : Int) b e % 115792089237316195423570985008687907853269984665640564039457584007913129639936 + x2) / 115792089237316195423570985008687907853269984665640564039457584007913129639936 : Nat)) = ((digAt r (X : Int) b (e - 1) / 115792089237316195423570985008687907853269984665640564039457584007913129639936 % 18446744073709551616 : Nat) : Int) ∧ digAt r (X : Int) b e + x2 = digAt r (X : Int) b (e - 1) ∧ digAt r (X : Int) b e / 115792089237316195423570985008687907853269984665640564039457584007913129639936 % 18446744073709551616 ≠ 0 := by
    intro e he h0
    have := top_step (mrem := R % x2) (B := x2) (e := e) ml hBM he h0
    rw [← hT, ← hT] at this
    exact this
  obtain ⟨u1, u2⟩ := top_zero (mrem := R % x2) (B := x2) ml hBM
  rw [← hT] at u1 u2 t1 t2
  have y3p : 0 < y3 := by clear hT; omega
  have g1 : x5 - x3 ≤ 2 := by clear hT; omega
  have g2 : x3 + (x5 - x3) = x5 := by clear hT; omega
  have g3 : x3 < 18446744073709551616 := by clear hT; omega
  have hmM : R % x2 < 115792089237316195423570985008687907853269984665640564039457584007913129639936 := Nat.lt_trans ml hBM
  clear hT n1 n2 n3 n4 n5 n6 n7 n8 hA hB hR hJ hBg hG hY D3 L3 H6 dm E6 E7
  generalize digAt r (X : Int) b = T at *
  generalize R % x2 = mr at *
  refine ⟨word_nat b3, word_nat b2, word_nat c3, Int.ofNat_lt.2 y3p, ?_, hx, word_nat b0, word_nat b1, word_nat b2, fun _ => rfl, x5 - x3, ⟨g1, by rw [g2]; exact q3⟩, rfl, rfl, rfl, t1, ?_, t2, rfl, rfl, rfl, rfl, fun y hy => ⟨fun c => ?_, fun c => ?_⟩⟩
  · rw [E1]; exact word_nat q3
  · rw [E1, g2]
  · have hy0 : y ≠ 0 := by
      rintro rfl
      rw [u1] at c
      exact absurd c (by decide)
    obtain ⟨s1, s2, s3⟩ := step y hy.1 hy0
    refine ⟨y - 1, ⟨by omega, by omega⟩, rfl, rfl, rfl, s1, ?_, ?_, rfl, rfl, rfl, rfl, by omega⟩
    · rw [wrap_mod]; omega
    · rw [hbB, s2]
  · have hy0 : y = 0 := by
      refine Classical.byContradiction fun h => ?_
      obtain ⟨s1, s2, s3⟩ := step y hy.1 h
      rw [bne_eq_false_iff_eq] at c
      exact s3 (Int.ofNat.inj c)
    subst hy0
    exact ⟨rfl, by rw [u2, Nat.mod_eq_of_lt hmM], trivial⟩
theorem card_digit : FnOK Try.prog 64 (specUWU digC digG) :=
  FnOK_UWU (CxOK_cons card_guess (CxOK_cons card_times (CxOK_cons card_less (CxOK_cons card_plus CxOK_nil)))) (iv := fun r x b => [(7, .inv (invDig r x b))]) (N := 100) Try.func64 (by kernel_rfl) (by kernel_rfl) (fun _ _ _ => bnd_two (bnd_I _ _) (bnd_U _)) ok_digit
end Go.Proofs.Ytbkdokofapbagaa
