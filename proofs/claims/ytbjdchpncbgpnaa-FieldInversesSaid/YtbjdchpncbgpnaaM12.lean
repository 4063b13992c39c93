/-
  Texts: P20, P21, P22, V64, P108, V8, V9, P23, P26, P27, V65, P109, V10, Wsp5, Leh, V11, P30, P31, P32.
-/
import Derived.Test.YtbjdchpncbgpnaaM1
import Derived.Test.YtbjdchpncbgpnaaM2
import Derived.Test.YtbjdchpncbgpnaaM3
import Derived.Test.YtbjdchpncbgpnaaM4
import Derived.Test.YtbjdchpncbgpnaaM5
import Derived.Test.YtbjdchpncbgpnaaM6
import Derived.Test.YtbjdchpncbgpnaaM7
import Derived.Test.YtbjdchpncbgpnaaM8
import Derived.Test.YtbjdchpncbgpnaaM9
import Derived.Test.YtbjdchpncbgpnaaM10
import Derived.Test.YtbjdchpncbgpnaaM11
section
/-
  Quotients: one digit of a long division by four words.
-/
namespace Go.Proofs.Ytbjdchpncbgpnaa
open Go.Sx

/-! ## How far a guess is off -/
theorem knuth {W K r3 r2 rr b3 bl B R g : Nat} (hB : B = b3 * K + bl) (hbl : bl < K) (hR : R = (r3 * W + r2) * K + rr) (hrr : rr < K) (hlt : R < B * W) (hb : W ≤ 2 * b3) (hr2 : r2 < W)
    (hg : g = if r3 < b3 then (r3 * W + r2) / b3 else W - 1) : R / B ≤ g ∧ g ≤ R / B + 2 ∧ g < W := by
  have hW : 0 < W := by omega
  have hb0 : 0 < b3 := by omega
  have hK : 0 < K := by omega
  have hBp : 0 < B := by
    have := Nat.mul_pos hb0 hK
    omega
  have hQ : R / B < W := by
    rw [Nat.div_lt_iff_lt_mul hBp, Nat.mul_comm]
    exact hlt
  have hgW : g < W := by
    rw [hg]
    split
    · rename_i h
      rw [Nat.div_lt_iff_lt_mul hb0, Nat.mul_comm W]
      have := Nat.mul_le_mul_right W (show r3 + 1 ≤ b3 from h)
      rw [Nat.add_mul, Nat.one_mul] at this
      omega
    · omega
  have hgb : g * b3 ≤ r3 * W + r2 := by
    rw [hg]
    split
    · exact Nat.div_mul_le_self _ _
    · rename_i h
      have h1 := Nat.mul_le_mul (show W - 1 ≤ W by omega) (show b3 ≤ r3 by omega)
      rw [Nat.mul_comm W r3] at h1
      omega
  have hqb : R / B * b3 ≤ r3 * W + r2 := by
    have h1 := Nat.div_mul_le_self R B
    generalize R / B = Q at *
    have h2 : Q * b3 * K ≤ R := by
      have : Q * B = Q * b3 * K + Q * bl := by rw [hB, Nat.mul_add, Nat.mul_assoc]
      omega
    have h3 : Q * b3 * K < (r3 * W + r2 + 1) * K := by
      rw [Nat.add_mul (r3 * W + r2), Nat.one_mul]
      omega
    exact Nat.lt_succ_iff.1 (Nat.lt_of_mul_lt_mul_right h3)
  refine ⟨?_, ?_, hgW⟩
  · rw [hg]
    split
    · rw [Nat.le_div_iff_mul_le hb0]
      exact hqb
    · omega
  · have d := Nat.div_add_mod R B
    have m := Nat.mod_lt R hBp
    have h1 : g * B = g * b3 * K + g * bl := by rw [hB, Nat.mul_add, Nat.mul_assoc]
    have h2 := Nat.mul_le_mul_right K hgb
    have h3 : g * bl ≤ W * K := Nat.mul_le_mul (by omega) (by omega)
    have h3' : g * bl < W * K := by
      rcases Nat.eq_zero_or_pos bl with e | e
      · rw [e, Nat.mul_zero]; exact Nat.mul_pos hW hK
      · exact Nat.lt_of_lt_of_le (Nat.mul_lt_mul_of_pos_right hgW e) (Nat.mul_le_mul_left W (by omega))
    have h4 := Nat.mul_le_mul_right K hb
    have h5 : 2 * b3 * K = 2 * (b3 * K) := Nat.mul_assoc _ _ _
    generalize R / B = Q at *
    have h6 : g * B < (Q + 3) * B := by
      rw [Nat.add_mul, Nat.mul_comm Q B]
      generalize g * b3 * K = A at *
      generalize (r3 * W + r2) * K = C at *
      generalize b3 * K = D at *
      generalize B * Q = E at *
      omega
    have := Nat.lt_of_mul_lt_mul_right h6
    omega

theorem top_of {r3 x6 x7 hi mrem Y P G : Nat} (h1 : P + mrem = r3 * 115792089237316195423570985008687907853269984665640564039457584007913129639936 + x6) (h2 : G = P + Y) (h3 : 115792089237316195423570985008687907853269984665640564039457584007913129639936 * hi + x7 = G) (h4 : x7 < 115792089237316195423570985008687907853269984665640564039457584007913129639936) (h5 : x6 < 115792089237316195423570985008687907853269984665640564039457584007913129639936) (h6 : hi < 18446744073709551616) (h7 : Y ≤ 2 * 115792089237316195423570985008687907853269984665640564039457584007913129639936) (h8 : mrem < 115792089237316195423570985008687907853269984665640564039457584007913129639936) (h9 : r3 < 18446744073709551616) :
    IntKind.u64.wrap ((r3 : Int) - IntKind.u64.wrap ((hi : Int) + if x6 < x7 then 1 else 0)) = (((115792089237316195423570985008687907853269984665640564039457584007913129639936 * 18446744073709551616 + mrem - Y) / 115792089237316195423570985008687907853269984665640564039457584007913129639936 % 18446744073709551616 : Nat) : Int) ∧ (x6 + 115792089237316195423570985008687907853269984665640564039457584007913129639936 - x7) % 115792089237316195423570985008687907853269984665640564039457584007913129639936 = (115792089237316195423570985008687907853269984665640564039457584007913129639936 * 18446744073709551616 + mrem - Y) % 115792089237316195423570985008687907853269984665640564039457584007913129639936 := by
  simp only [wrap_mod]
  split
  · rename_i h
    have e : 115792089237316195423570985008687907853269984665640564039457584007913129639936 * 18446744073709551616 + mrem - Y = 115792089237316195423570985008687907853269984665640564039457584007913129639936 * (18446744073709551616 + r3 - hi - 1) + (115792089237316195423570985008687907853269984665640564039457584007913129639936 + x6 - x7) := by omega
    rw [e]
    omega
  · rename_i h
    have e : 115792089237316195423570985008687907853269984665640564039457584007913129639936 * 18446744073709551616 + mrem - Y = 115792089237316195423570985008687907853269984665640564039457584007913129639936 * (18446744073709551616 + r3 - hi) + (x6 - x7) := by omega
    rw [e]
    omega
theorem top_step {mrem B e : Nat} (h1 : mrem < B) (h2 : B < 115792089237316195423570985008687907853269984665640564039457584007913129639936) (he : e ≤ 2) (h0 : e ≠ 0) :
    IntKind.u64.wrap ((((115792089237316195423570985008687907853269984665640564039457584007913129639936 * 18446744073709551616 + mrem - e * B) / 115792089237316195423570985008687907853269984665640564039457584007913129639936 % 18446744073709551616 : Nat) : Int) + (((115792089237316195423570985008687907853269984665640564039457584007913129639936 * 18446744073709551616 + mrem - e * B) % 115792089237316195423570985008687907853269984665640564039457584007913129639936 + B) / 115792089237316195423570985008687907853269984665640564039457584007913129639936 : Nat)) = (((115792089237316195423570985008687907853269984665640564039457584007913129639936 * 18446744073709551616 + mrem - (e - 1) * B) / 115792089237316195423570985008687907853269984665640564039457584007913129639936 % 18446744073709551616 : Nat) : Int) ∧ (115792089237316195423570985008687907853269984665640564039457584007913129639936 * 18446744073709551616 + mrem - e * B + B) = (115792089237316195423570985008687907853269984665640564039457584007913129639936 * 18446744073709551616 + mrem - (e - 1) * B) ∧ (115792089237316195423570985008687907853269984665640564039457584007913129639936 * 18446744073709551616 + mrem - e * B) / 115792089237316195423570985008687907853269984665640564039457584007913129639936 % 18446744073709551616 ≠ 0 := by
  simp only [wrap_mod]
  rcases (show e = 1 ∨ e = 2 by omega) with rfl | rfl
  · refine ⟨?_, ?_, ?_⟩ <;> omega
  · refine ⟨?_, ?_, ?_⟩ <;> omega
theorem top_zero {mrem B : Nat} (h1 : mrem < B) (h2 : B < 115792089237316195423570985008687907853269984665640564039457584007913129639936) : (115792089237316195423570985008687907853269984665640564039457584007913129639936 * 18446744073709551616 + mrem - 0 * B) / 115792089237316195423570985008687907853269984665640564039457584007913129639936 % 18446744073709551616 = 0 ∧ (115792089237316195423570985008687907853269984665640564039457584007913129639936 * 18446744073709551616 + mrem - 0 * B) % 115792089237316195423570985008687907853269984665640564039457584007913129639936 = mrem := by omega
def gN (h l y : Nat) : Nat := if h < y then (h * 18446744073709551616 + l) / y else 18446744073709551616 - 1
theorem guess_nat (h l y : Nat) : guessN (h : Int) (l : Int) (y : Int) = ((gN h l y : Nat) : Int) := by
  unfold guessN gN
  rcases Nat.lt_or_ge h y with c | c
  · rw [if_pos (by omega), if_pos c, Int.natCast_ediv, Int.natCast_add, Int.natCast_mul]
    rfl
  · rw [if_neg (by omega), if_neg (by omega)]
    rfl

theorem kn_all {r0 r1 r2 r3 y0 y1 y2 y3 X R B : Nat} (b0 : r0 < 18446744073709551616) (b1 : r1 < 18446744073709551616) (b2 : r2 < 18446744073709551616) (c0 : y0 < 18446744073709551616) (c1 : y1 < 18446744073709551616) (c2 : y2 < 18446744073709551616) (bX : X < 18446744073709551616)
    (hB : B = ((y3 * 18446744073709551616 + y2) * 18446744073709551616 + y1) * 18446744073709551616 + y0) (hR : R = (((r3 * 18446744073709551616 + r2) * 18446744073709551616 + r1) * 18446744073709551616 + r0) * 18446744073709551616 + X) (hrb : ((r3 * 18446744073709551616 + r2) * 18446744073709551616 + r1) * 18446744073709551616 + r0 < B) (hbt : 115792089237316195423570985008687907853269984665640564039457584007913129639936 ≤ 2 * B) :
    B = y3 * 6277101735386680763835789423207666416102355444464034512896 + ((y2 * 18446744073709551616 + y1) * 18446744073709551616 + y0) ∧ (y2 * 18446744073709551616 + y1) * 18446744073709551616 + y0 < 6277101735386680763835789423207666416102355444464034512896 ∧ R = (r3 * 18446744073709551616 + r2) * 6277101735386680763835789423207666416102355444464034512896 + ((r1 * 18446744073709551616 + r0) * 18446744073709551616 + X) ∧ (r1 * 18446744073709551616 + r0) * 18446744073709551616 + X < 6277101735386680763835789423207666416102355444464034512896 ∧ R < B * 18446744073709551616 ∧ 18446744073709551616 ≤ 2 * y3 ∧ R = r3 * 115792089237316195423570985008687907853269984665640564039457584007913129639936 + (((r2 * 18446744073709551616 + r1) * 18446744073709551616 + r0) * 18446744073709551616 + X) ∧ ((r2 * 18446744073709551616 + r1) * 18446744073709551616 + r0) * 18446744073709551616 + X < 115792089237316195423570985008687907853269984665640564039457584007913129639936 := by
  refine ⟨?_, ?_, ?_, ?_, ?_, ?_, ?_, ?_⟩
  · clear hR hrb hbt b0 b1 b2 bX; exact Nat.le_antisymm (by omega) (by omega)
  · clear hR hrb hbt hB b0 b1 b2 bX; omega
  · clear hB hrb hbt; exact Nat.le_antisymm (by omega) (by omega)
  · clear hR hB hrb hbt; omega
  · clear hB hbt; omega
  · clear hR hrb; omega
  · clear hB hrb hbt; exact Nat.le_antisymm (by omega) (by omega)
  · clear hR hB hrb hbt; omega

theorem ok_digit : ∀ (r : Nat) (x : Int) (b : Nat), Ok (digC r x b) → Owes Try.prog cxDig [(7, .inv (invDig r x b))] 100 Try.f73 [sU r, sI .u64 x, sU b] (digG r x b) := by
  intro r x b hc
  obtain ⟨hx, hrb, hbt, _⟩ := hc
  rw [vc_digit]
  obtain ⟨X, rfl⟩ := Int.eq_ofNat_of_zero_le hx.1
  have bX : X < 18446744073709551616 := Int.ofNat_lt.1 hx.2
  obtain ⟨r0, h0, b0⟩ := limb_is r 0
  obtain ⟨r1, h1, b1⟩ := limb_is r 1
  obtain ⟨r2, h2, b2⟩ := limb_is r 2
  obtain ⟨r3, h3, b3⟩ := limb_is r 3
  obtain ⟨y0, k0, c0⟩ := limb_is b 0
  obtain ⟨y1, k1, c1⟩ := limb_is b 1
  obtain ⟨y2, k2, c2⟩ := limb_is b 2
  obtain ⟨y3, k3, c3⟩ := limb_is b 3
  have hA := horner_is r r0 r1 r2 r3 h0 h1 h2 h3
  have hB := horner_is b y0 y1 y2 y3 k0 k1 k2 k3
  have hBM : b % M256 < M256 := Nat.mod_lt _ (by rw [M256_eq]; decide)
  have hT : ∀ e, digAt r (X : Int) b e = M256 * 18446744073709551616 + digR r (X : Int) % (b % M256) - e * (b % M256) := fun e => rfl
  have hR : digR r (X : Int) = r % M256 * 18446744073709551616 + X := by unfold digR; rw [Int.toNat_natCast]
  have hJ : join (X : Int) (limb r 0) (limb r 1) (limb r 2) % M256 = ((r2 * 18446744073709551616 + r1) * 18446744073709551616 + r0) * 18446744073709551616 + X := by
    rw [h0, h1, h2, join_nat, M_val]
    omega
  have hBg : ∀ g : Nat, b * g % M256 = b % M256 * g % M256 := fun g => mod_mul_M b g
  rw [h0, h1, h2] at hJ
  rw [M_val] at hA hB hBM hT hR hJ hBg hrb hbt
  have hbB : ∀ v : Nat, (v + b) % 115792089237316195423570985008687907853269984665640564039457584007913129639936 = (v + b % 115792089237316195423570985008687907853269984665640564039457584007913129639936) % 115792089237316195423570985008687907853269984665640564039457584007913129639936 := fun v => by rw [Nat.add_mod v b, Nat.add_mod v (b % 115792089237316195423570985008687907853269984665640564039457584007913129639936), Nat.mod_mod]
  rw [h0, h1, h2, h3, k3, M_val]
  intro x1 x2 x3 x4 x5 x6 x7
  have E1 : x1 = ((gN r3 r2 y3 : Nat) : Int) := guess_nat _ _ _
  have E5 : x5 = gN r3 r2 y3 := by simp only [x5, E1]; exact Int.toNat_natCast _
  have E6 : x6 = ((r2 * 18446744073709551616 + r1) * 18446744073709551616 + r0) * 18446744073709551616 + X := hJ
  have E7 : x7 = x2 * x5 % 115792089237316195423570985008687907853269984665640564039457584007913129639936 := by simp only [x7, x2]; exact hBg _
  have E3 : x3 = digR r (X : Int) / x2 := rfl
  have E2 : x2 = b % 115792089237316195423570985008687907853269984665640564039457584007913129639936 := rfl
  clear_value x7 x6 x5 x4 x3
  clear_value x1
  rw [← E2] at hB hBM hT hrb hbt hbB
  clear_value x2
  generalize digR r (X : Int) = R at *
  rw [hA] at hR hrb
  obtain ⟨n1, n2, n3, n4, n5, n6, n7, n8⟩ := kn_all b0 b1 b2 c0 c1 c2 bX hB hR hrb hbt
  obtain ⟨q1, q2, q3⟩ := knuth (W := 18446744073709551616) (K := 6277101735386680763835789423207666416102355444464034512896) (r3 := r3) (r2 := r2) (rr := (r1 * 18446744073709551616 + r0) * 18446744073709551616 + X) (b3 := y3) (bl := (y2 * 18446744073709551616 + y1) * 18446744073709551616 + y0) (B := x2) (R := R) (g := gN r3 r2 y3) n1 n2 n3 n4 n5 n6 b2 rfl
  rw [← E3] at q1 q2
  rw [← E5] at q1 q2 q3 E1
  have hBp : 0 < x2 := by omega
  have dm := Nat.div_add_mod R x2
  have ml := Nat.mod_lt R hBp
  rw [← E3] at dm
  have D3 := Nat.div_add_mod (x2 * x5) 115792089237316195423570985008687907853269984665640564039457584007913129639936
  have L3 := Nat.mod_lt (x2 * x5) (show 0 < 115792089237316195423570985008687907853269984665640564039457584007913129639936 by decide)
  have H6 : x2 * x5 / 115792089237316195423570985008687907853269984665640564039457584007913129639936 < 18446744073709551616 := by
    rw [Nat.div_lt_iff_lt_mul (by decide), Nat.mul_comm 18446744073709551616]
    exact Nat.mul_lt_mul'' hBM q3
  have hG : x2 * x5 = x2 * x3 + (x5 - x3) * x2 := by
    rw [Nat.mul_comm (x5 - x3), ← Nat.mul_add]
    congr 1
    omega
  have hY : (x5 - x3) * x2 ≤ 2 * 115792089237316195423570985008687907853269984665640564039457584007913129639936 := Nat.mul_le_mul (by omega) (by omega)
  rw [← E7] at D3 L3
  obtain ⟨t1, t2⟩ := top_of (r3 := r3) (x6 := x6) (x7 := x7) (hi := x2 * x5 / 115792089237316195423570985008687907853269984665640564039457584007913129639936) (mrem := R % x2) (Y := (x5 - x3) * x2) (P := x2 * x3) (G := x2 * x5) (by rw [dm, n7, E6]) hG D3 L3 (by rw [E6]; exact n8) H6 hY (Nat.lt_trans ml hBM) b3
  have step : ∀ e, e ≤ 2 → e ≠ 0 → IntKind.u64.wrap (((digAt r (X : Int) b e / 115792089237316195423570985008687907853269984665640564039457584007913129639936 % 18446744073709551616 : Nat) : Int) + ((digAt r (X : Int) b e % 115792089237316195423570985008687907853269984665640564039457584007913129639936 + x2) / 115792089237316195423570985008687907853269984665640564039457584007913129639936 : Nat)) = ((digAt r (X : Int) b (e - 1) / 115792089237316195423570985008687907853269984665640564039457584007913129639936 % 18446744073709551616 : Nat) : Int) ∧ digAt r (X : Int) b e + x2 = digAt r (X : Int) b (e - 1) ∧ digAt r (X : Int) b e / 115792089237316195423570985008687907853269984665640564039457584007913129639936 % 18446744073709551616 ≠ 0 := by
    intro e he h0
    have := top_step (mrem := R % x2) (B := x2) (e := e) ml hBM he h0
    rw [← hT, ← hT] at this
    exact this
  obtain ⟨u1, u2⟩ := top_zero (mrem := R % x2) (B := x2) ml hBM
  rw [← hT] at u1 u2 t1 t2
  have y3p : 0 < y3 := by clear hT; omega
  have g1 : x5 - x3 ≤ 2 := by clear hT; omega
  have g2 : x3 + (x5 - x3) = x5 := by clear hT; omega
  have g3 : x3 < 18446744073709551616 := by clear hT; omega
  have hmM : R % x2 < 115792089237316195423570985008687907853269984665640564039457584007913129639936 := Nat.lt_trans ml hBM
  clear hT n1 n2 n3 n4 n5 n6 n7 n8 hA hB hR hJ hBg hG hY D3 L3 H6 dm E6 E7
  generalize digAt r (X : Int) b = T at *
  generalize R % x2 = mr at *
  refine ⟨word_nat b3, word_nat b2, word_nat c3, Int.ofNat_lt.2 y3p, ?_, hx, word_nat b0, word_nat b1, word_nat b2, fun _ => rfl, x5 - x3, ⟨g1, by rw [g2]; exact q3⟩, rfl, rfl, rfl, t1, ?_, t2, rfl, rfl, rfl, rfl, fun y hy => ⟨fun c => ?_, fun c => ?_⟩⟩
  · rw [E1]; exact word_nat q3
  · rw [E1, g2]
  · have hy0 : y ≠ 0 := by
      rintro rfl
      rw [u1] at c
      exact absurd c (by decide)
    obtain ⟨s1, s2, s3⟩ := step y hy.1 hy0
    refine ⟨y - 1, ⟨by omega, by omega⟩, rfl, rfl, rfl, s1, ?_, ?_, rfl, rfl, rfl, rfl, by omega⟩
    · rw [wrap_mod]; omega
    · rw [hbB, s2]
  · have hy0 : y = 0 := by
      refine Classical.byContradiction fun h => ?_
      obtain ⟨s1, s2, s3⟩ := step y hy.1 h
      rw [bne_eq_false_iff_eq] at c
      exact s3 (Int.ofNat.inj c)
    subst hy0
    exact ⟨rfl, by rw [u2, Nat.mod_eq_of_lt hmM], trivial⟩
theorem card_digit : FnOK Try.prog 73 (specUWU digC digG) :=
  FnOK_UWU (CxOK_cons card_guess (CxOK_cons card_times (CxOK_cons card_less (CxOK_cons card_plus CxOK_nil)))) (iv := fun r x b => [(7, .inv (invDig r x b))]) (N := 100) Try.func73 (by kernel_rfl) (by kernel_rfl) (fun _ _ _ => bnd_two (bnd_I _ _) (bnd_U _)) ok_digit
end Go.Proofs.Ytbjdchpncbgpnaa
end

section
/-
  Quotients: the long division, and the law.
-/
namespace Go.Proofs.Ytbjdchpncbgpnaa
open Go.Sx

theorem M_pow : M256 = 2 ^ 256 := rfl
theorem horner_top {P x c0 c1 c2 c3 : Nat} (h : M256 * x + (((c3 * 18446744073709551616 + c2) * 18446744073709551616 + c1) * 18446744073709551616 + c0) = P) : P = (((x * 18446744073709551616 + c3) * 18446744073709551616 + c2) * 18446744073709551616 + c1) * 18446744073709551616 + c0 := by
  rw [M_val] at h
  exact Nat.le_antisymm (by omega) (by omega)
theorem ok_divide : ∀ a b : Nat, Ok (dvC a b) → Owes Try.prog cxDv [] 100 Try.f45 [sU a, sU b] (dvG a b) := by
  intro a b hc
  obtain ⟨hb0, _⟩ := hc
  rw [vc_divide]
  have hMp : 0 < M256 := by rw [M256_eq]; decide
  have hA : a % M256 < M256 := Nat.mod_lt _ hMp
  have hB : b % M256 < M256 := Nat.mod_lt _ hMp
  have hl := bitsN_le (n := b % M256) (k := 256) hB
  obtain ⟨hb1, hb2⟩ := bitsN_two (b % M256) (by omega)
  obtain ⟨s, hs⟩ : ∃ s, s = 256 - bitsN (b % M256) := ⟨_, rfl⟩
  have hs' : bitsN (b % M256) + s = 256 := by omega
  have hDE : 2 ^ (256 - s) * 2 ^ s = M256 := by rw [← Nat.pow_add, show 256 - s + s = 256 by omega]; rfl
  have hD := Nat.two_pow_pos s
  have hE := Nat.two_pow_pos (256 - s)
  rw [show bitsN (b % M256) = 256 - s by omega] at hb1 hb2
  have hYM : b % M256 * 2 ^ s < M256 := by
    exact Nat.lt_of_lt_of_eq (Nat.mul_lt_mul_of_pos_right hb1 hD) hDE
  have hYt : M256 ≤ 2 * (b % M256 * 2 ^ s) := by
    have := Nat.mul_le_mul_right (2 ^ s) hb2
    rw [hDE, Nat.mul_assoc] at this
    exact this
  have hY8 : b * 2 ^ s % M256 = b % M256 * 2 ^ s := (mod_mul_M b _).trans (Nat.mod_eq_of_lt hYM)
  have hxD : a % M256 / 2 ^ (256 - s) < 2 ^ s := by
    rw [Nat.div_lt_iff_lt_mul hE, Nat.mul_comm, hDE]
    exact hA
  have hxY : a % M256 / 2 ^ (256 - s) < b % M256 * 2 ^ s := Nat.lt_of_lt_of_le hxD (Nat.le_mul_of_pos_left _ hb0)
  obtain ⟨c0, h0, l0⟩ := limb_is (a * 2 ^ s) 0
  obtain ⟨c1, h1, l1⟩ := limb_is (a * 2 ^ s) 1
  obtain ⟨c2, h2, l2⟩ := limb_is (a * 2 ^ s) 2
  obtain ⟨c3, h3, l3⟩ := limb_is (a * 2 ^ s) 3
  have hH := horner_is (a * 2 ^ s) c0 c1 c2 c3 h0 h1 h2 h3
  have hN : a % M256 * 2 ^ s = (((a % M256 / 2 ^ (256 - s) * 18446744073709551616 + c3) * 18446744073709551616 + c2) * 18446744073709551616 + c1) * 18446744073709551616 + c0 := by
    refine horner_top ?_
    rw [← hH, mod_mul_M]
    have e : a % M256 / 2 ^ (256 - s) = a % M256 * 2 ^ s / M256 := by rw [← hDE, Nat.mul_div_mul_right _ _ hD]
    rw [e]
    exact Nat.div_add_mod _ _
  obtain ⟨v1, v2⟩ := div_moved (a % M256) (b % M256) (2 ^ s) hD
  have hYp : 0 < b % M256 * 2 ^ s := Nat.mul_pos hb0 hD
  obtain ⟨d1, d2⟩ := long_div 18446744073709551616 c0 c1 c2 (a % M256 / 2 ^ (256 - s) * 18446744073709551616 + c3) (b % M256 * 2 ^ s) hYp
  rw [← hN, ← v1] at d1
  rw [← hN] at d2
  rw [d2] at v2
  intro x1 x2 x3 x4 x5 x6 x7 x8 x9 x10 x11 x12 x13 x14 x15 x16 x17 x18 x19 x20 x21 x22
  have E2 : x2 = (s : Int) := by simp only [x2, x1, ← hs]
  have E3 : x3 = ((256 - s : Nat) : Int) := by
    simp only [x3, E2]
    rw [IntWalk.i64_in _ (by omega)]
    omega
  have E4 : x4 = 2 ^ s := by simp only [x4, E2, Int.toNat_natCast]
  have E5 : x5 = (c3 : Int) := by simp only [x5, E4]; exact h3
  have E9 : x9 = (c2 : Int) := by simp only [x9, E4]; exact h2
  have E12 : x12 = (c1 : Int) := by simp only [x12, E4]; exact h1
  have E15 : x15 = (c0 : Int) := by simp only [x15, E4]; exact h0
  have E7 : x7 = a % M256 / 2 ^ (256 - s) := by simp only [x7, x6, E3, Int.toNat_natCast]
  have E8 : x8 = b % M256 * 2 ^ s := by simp only [x8, E4]; exact hY8
  have hdig : ∀ r c : Nat, r < b % M256 * 2 ^ s → digR r (c : Int) = r * 18446744073709551616 + c := fun r c h => by
    unfold digR
    rw [Int.toNat_natCast, Nat.mod_eq_of_lt (Nat.lt_trans h hYM)]
  have E10 : x10 = a % M256 / 2 ^ (256 - s) * 18446744073709551616 + c3 := by simp only [x10, E7, E5]; exact hdig _ _ hxY
  have E11 : x11 = x10 % (b % M256 * 2 ^ s) := by simp only [x11, E8]
  have lt1 := Nat.mod_lt x10 hYp
  have ql3 := long_lt hYp hxY l3
  have E13 : x13 = x10 % (b % M256 * 2 ^ s) * 18446744073709551616 + c2 := by simp only [x13, E11, E9]; exact hdig _ _ lt1
  clear_value x10 x11
  have E14 : x14 = x13 % (b % M256 * 2 ^ s) := by simp only [x14, E8]
  have lt2 := Nat.mod_lt x13 hYp
  have ql2 := long_lt hYp lt1 l2
  have E16 : x16 = x13 % (b % M256 * 2 ^ s) * 18446744073709551616 + c1 := by simp only [x16, E14, E12]; exact hdig _ _ lt2
  have E17 : x17 = x16 % (b % M256 * 2 ^ s) := by simp only [x17, E8]
  have lt3 := Nat.mod_lt x16 hYp
  have ql1 := long_lt hYp lt2 l1
  have E18 : x18 = x16 % (b % M256 * 2 ^ s) * 18446744073709551616 + c0 := by simp only [x18, E17, E15]; exact hdig _ _ lt3
  have ql0 := long_lt hYp lt3 l0
  have E19 : x19 = ((x18 / (b % M256 * 2 ^ s) : Nat) : Int) := by simp only [x19, E8]
  have E20 : x20 = ((x16 / (b % M256 * 2 ^ s) : Nat) : Int) := by simp only [x20, E8]
  have E21 : x21 = ((x13 / (b % M256 * 2 ^ s) : Nat) : Int) := by simp only [x21, E8]
  have E22 : x22 = ((x10 / (b % M256 * 2 ^ s) : Nat) : Int) := by simp only [x22, E8]
  have E6 : x6 = a % M256 := rfl
  have E1 : x1 = b % M256 := rfl
  rw [← E10, ← E13, ← E16, ← E18] at d1 v2
  rw [← E10] at ql3
  rw [← E13] at ql2
  rw [← E16] at ql1
  rw [← E18] at ql0
  clear_value x22 x21 x20 x19 x18 x17 x16 x15 x14 x13 x12 x9 x8 x7 x6 x5 x4 x3 x2 x1
  rw [← E7, ← E8] at hxY
  rw [← E8] at hYM hYt
  rw [← E8] at E11 E14 E17 lt1 lt2 lt3 E19 E20 E21 E22 ql0 ql1 ql2 ql3 d1 v2
  rw [← E1] at v2 d1
  rw [← E6] at v2 d1
  rw [← E4] at v2
  have w : ∀ v : Nat, v < x8 → v % M256 < x8 := fun v hv => by rw [Nat.mod_eq_of_lt (Nat.lt_trans hv hYM)]; exact hv
  have h2 : (0 : Int) ≤ x2 ∧ x2 ≤ 256 := by rw [E2]; omega
  refine ⟨h2, by rw [E3]; omega, h2, by rw [E5]; exact word_nat l3, w _ hxY, hYt, by rw [E9]; exact word_nat l2, w _ (by rw [E11]; exact lt1), hYt, by rw [E12]; exact word_nat l1, w _ (by rw [E14]; exact lt2), hYt, by rw [E15]; exact word_nat l0, w _ (by rw [E17]; exact lt3), hYt, h2, ⟨by rw [E19]; exact word_nat ql0, by rw [E20]; exact word_nat ql1, by rw [E21]; exact word_nat ql2, by rw [E22]; exact word_nat ql3, ?_, trivial⟩, ?_, trivial⟩
  · rw [E19, E20, E21, E22, join_nat, d1]
  · rw [Nat.mod_eq_of_lt (Nat.lt_trans (Nat.mod_lt x18 (by omega)) hYM), v2]
theorem card_divide : FnOK Try.prog 45 (specUUC dvC dvG) :=
  FnOK_UUC (CxOK_cons card_noughts (CxOK_cons card_up (CxOK_cons card_down (CxOK_cons card_digit CxOK_nil)))) (iv := fun _ _ => []) (N := 100) Try.func45 (by kernel_rfl) (by kernel_rfl) (fun _ _ => bnd_two (bnd_U _) (bnd_U _)) ok_divide
end Go.Proofs.Ytbjdchpncbgpnaa
end

section
/-
  Quotients: DivMod, and the law.
-/
namespace Go.Proofs.Ytbjdchpncbgpnaa
open Go.Sx

theorem bnd_three {x y z : SA} (h : x.bnd none0) (h' : y.bnd none0) (h'' : z.bnd none0) : SV.bnd none0 (.tup [x, y, z]) := by
  intro k hk
  simp only [List.mem_cons, List.not_mem_nil, or_false] at hk
  rcases hk with rfl | rfl | rfl <;> assumption
theorem ok_DivMod : ∀ a b : Nat, Owes Try.prog cxDm [] 100 Try.f17 [sU a, sU b] (dmG a b) := by
  intro a b
  rw [vc_DivMod]
  intro x1 x2 x3 x4 x5 x6 x7
  refine ⟨fun h => ?_, fun h => ?_⟩
  · have h : x1 = 0 := beq_iff_eq.1 h
    refine ⟨⟨?_, trivial⟩, ⟨?_, trivial⟩, ?_⟩
    · simp only [x4, if_pos h]; exact (Nat.zero_mod _).symm
    · simp only [x6, if_pos h]; exact (Nat.zero_mod _).symm
    · simp only [x7, if_pos h]
  · have h : x1 ≠ 0 := beq_eq_false_iff_ne.1 h
    refine ⟨Nat.pos_of_ne_zero h, ⟨?_, trivial⟩, ⟨?_, trivial⟩, ?_⟩
    · simp only [x4, if_neg h]
    · simp only [x6, if_neg h]
    · simp only [x7, if_neg h]
theorem card_DivMod : FnOK Try.prog 17 (specUU dmG) :=
  FnOK_UU (CxOK_cons card_divide CxOK_nil) (iv := []) (N := 100) Try.func17 (by kernel_rfl) (by kernel_rfl) (fun _ _ => bnd_three (bnd_U _) (bnd_U _) (bnd_I _ _)) ok_DivMod
end Go.Proofs.Ytbjdchpncbgpnaa
end

section
/-
  Laws of wide numbers, and the reference's by a modulus: reckoned by the kernel. (Laid by program.)
-/
namespace Go.Proofs.Ytbjdchpncbgpnaa
open Go Go.Sx Go.RowKit
set_option maxRecDepth 100000
end Go.Proofs.Ytbjdchpncbgpnaa
end

section
/-
  Laws of wide sums and quotients.
-/
namespace Go.Proofs.Ytbjdchpncbgpnaa
open Go Go.Sx Go.RowKit
theorem conj_self (x : Nat) : conj [x == x] = true := by simp [conj]
end Go.Proofs.Ytbjdchpncbgpnaa
end

section
/-
  Package field: reckoned by the kernel. (Laid by program.)
-/
namespace Go.Proofs.Ytbjdchpncbgpnaa
open Go.Sx
set_option maxRecDepth 100000
-- VC vc_fnoughts HASH 8ba5090333e0a68e
theorem vc_fnoughts (a : Nat) :
    Owes Try.prog cxNoughts [] 100 Try.f80 [sU a] (noughtsG a) =
    (let x1 : Int := Go.IntKind.i64.wrap ((0 : Int) + ((64 : Int) - Go.Sx.lenN (Go.Sx.limb a (3 : Nat)))); let x2 : Int := (↑((256 : Nat) - bitsN (a % Go.Sx.M256)) : Int); let x3 : Int := Go.IntKind.i64.wrap (x1 + ((64 : Int) - Go.Sx.lenN (Go.Sx.limb a (2 : Nat)))); let x4 : Int := Go.IntKind.i64.wrap (x3 + ((64 : Int) - Go.Sx.lenN (Go.Sx.limb a (1 : Nat)))); ((0 : Int) ≤ Go.Sx.limb a (3 : Nat) ∧ Go.Sx.limb a (3 : Nat) < (18446744073709551616 : Int)) ∧ ((Go.Sx.limb a (3 : Nat) != (0 : Int)) = Bool.true → x1 = x2) ∧ ((Go.Sx.limb a (3 : Nat) != (0 : Int)) = Bool.false → ((0 : Int) ≤ Go.Sx.limb a (2 : Nat) ∧ Go.Sx.limb a (2 : Nat) < (18446744073709551616 : Int)) ∧ ((Go.Sx.limb a (2 : Nat) != (0 : Int)) = Bool.true → x3 = x2) ∧ ((Go.Sx.limb a (2 : Nat) != (0 : Int)) = Bool.false → ((0 : Int) ≤ Go.Sx.limb a (1 : Nat) ∧ Go.Sx.limb a (1 : Nat) < (18446744073709551616 : Int)) ∧ ((Go.Sx.limb a (1 : Nat) != (0 : Int)) = Bool.true → x4 = x2) ∧ ((Go.Sx.limb a (1 : Nat) != (0 : Int)) = Bool.false → ((0 : Int) ≤ Go.Sx.limb a (0 : Nat) ∧ Go.Sx.limb a (0 : Nat) < (18446744073709551616 : Int)) ∧ ((Go.Sx.limb a (0 : Nat) != (0 : Int)) = Bool.true → Go.IntKind.i64.wrap (x4 + ((64 : Int) - Go.Sx.lenN (Go.Sx.limb a (0 : Nat)))) = x2) ∧ ((Go.Sx.limb a (0 : Nat) != (0 : Int)) = Bool.false → Go.IntKind.i64.wrap (x4 + ((64 : Int) - Go.Sx.lenN (Go.Sx.limb a (0 : Nat)))) = x2))))) := by kernel_rfl
-- END VC
end Go.Proofs.Ytbjdchpncbgpnaa
end

section
/-
  Package field's calls, and its laws: reckoned by the kernel. (Laid by program.)
-/
namespace Go.Proofs.Ytbjdchpncbgpnaa
open Go.Sx
set_option maxRecDepth 100000
end Go.Proofs.Ytbjdchpncbgpnaa
end

section
/-
  Package field: the easy parts.
-/
namespace Go.Proofs.Ytbjdchpncbgpnaa
open Go.Sx

theorem ok_fnoughts : ∀ a : Nat, Owes Try.prog cxNoughts [] 100 Try.f80 [sU a] (noughtsG a) := by
  intro a
  have := ok_noughts a
  rw [vc_noughts] at this
  rw [vc_fnoughts]
  exact this
theorem card_fnoughts : FnOK Try.prog 80 (specU noughtsG) :=
  FnOK_U (CxOK_cons card_LZ64 CxOK_nil) (iv := []) (N := 100) Try.func80 (by kernel_rfl) (by kernel_rfl) (fun _ => bnd_one (bnd_I _ _)) ok_fnoughts

/-! ## sum and difference -/
/-! ## rest of a product, its parts given -/
end Go.Proofs.Ytbjdchpncbgpnaa
end

section
/-
  Package field: a part brought down; a number less another one some times; one bit; the product.
-/
namespace Go.Proofs.Ytbjdchpncbgpnaa
open Go.Sx

end Go.Proofs.Ytbjdchpncbgpnaa
end

section
/-
  Package field's calls; turned round.
-/
namespace Go.Proofs.Ytbjdchpncbgpnaa
open Go.Sx

theorem cmp_ge {a m : Nat} : cmpN a m ≥ 0 ↔ m % M256 ≤ a % M256 := by
  unfold cmpN
  rcases Nat.lt_or_ge (a % M256) (m % M256) with c | c
  · rw [if_pos c]; omega
  · rw [if_neg (by omega)]
    refine ⟨fun _ => c, fun _ => ?_⟩
    split <;> decide
/-! ## The laws -/
end Go.Proofs.Ytbjdchpncbgpnaa
end

section
/-
  Laws of numbers by a modulus: reckoned by the kernel. (Laid by program.)
-/
namespace Go.Proofs.Ytbjdchpncbgpnaa
open Go Go.Sx Go.RowKit
set_option maxRecDepth 100000
end Go.Proofs.Ytbjdchpncbgpnaa
end

section
/-
  Laws of numbers by a modulus: sums and products.
-/
namespace Go.Proofs.Ytbjdchpncbgpnaa
open Go Go.Sx Go.RowKit

theorem cmpI_lt0 {A R : Nat} : decide (cmpI A R ≥ 0) = false ↔ A < R := by
  rw [decide_eq_false_iff_not, cmpI_ge]
  omega
theorem cmpI_ge0 {A R : Nat} : decide (cmpI A R ≥ 0) = true ↔ R ≤ A := by rw [decide_eq_true_iff, cmpI_ge]
end Go.Proofs.Ytbjdchpncbgpnaa
end

section
/-
  Package field: powers: reckoned by the kernel. (Laid by program.)
-/
namespace Go.Proofs.Ytbjdchpncbgpnaa
open Go.Sx
set_option maxRecDepth 100000
def zeroU : List SK := [.c (.num .u64 0), .c (.num .u64 0), .c (.num .u64 0), .c (.num .u64 0)]
end Go.Proofs.Ytbjdchpncbgpnaa
end

section
/-
  Cards for arguments of any shape: structs of numbers and bits, a struct with an address that nobody follows.
-/
namespace Go.Sx
open Go.RowKit

/-- What a part of an argument is: a number of 256 bits, a bit; and what it holds. -/
inductive PK where
  | u | b | i
  | y (n : Nat)
inductive At where
  | u (n : Nat)
  | b (x : Bool)
  | i (n : Int)
  | y (n : Nat) (g : Nat → Int)
/-- What an argument is: a number and an address; a struct; a whole number; a bit. -/
inductive AP where
  | hand
  | str (ps : List PK)
  | int (k : IntKind)
  | bit

def asBit : SC → Option Bool
  | .bit x => some x
  | .val (.bool x) => some x
  | _ => none
theorem asBit_sound {s : SC} {x : Bool} (h : asBit s = some x) (ρ : Rho) : s.conc ρ = .bool x := by
  unfold asBit at h
  split at h
  · cases h; rfl
  · cases h; rfl
  · cases h
def takeU : List SK → Option (List Prop × Nat × List SK)
  | .u n :: r => some ([], n, r)
  | .c a :: .c b :: .c c :: .c d :: r => match asU4 [a, b, c, d] with
    | some (ps, n) => some (ps, n, r)
    | none => none
  | _ => none
theorem takeU_sound {ks r : List SK} {ps : List Prop} {n : Nat} (h : takeU ks = some (ps, n, r)) (hp : Ok ps) (ρ : Rho) : concs ρ ks = concs ρ (.u n :: r) := by
  unfold takeU at h
  split at h
  · cases h; rfl
  · rename_i a b c d r'
    split at h
    · rename_i ps' n' h4
      simp only [Option.some.injEq, Prod.mk.injEq] at h
      obtain ⟨rfl, rfl, rfl⟩ := h
      have := asU4_sound h4 hp ρ
      simp only [U, List.map_cons, List.map_nil, Value.agg.injEq] at this
      have := congrArg Array.toList this
      simp only [List.cons.injEq, and_true] at this
      obtain ⟨e1, e2, e3, e4⟩ := this
      simp [concs, flat, SK.cells, e1, e2, e3, e4, show ∀ v, (SC.val v).conc ρ = v from fun _ => rfl]
    · cases h
  · cases h
def asKs : List PK → List SK → Option (List Prop × List At)
  | [], [] => some ([], [])
  | .u :: ps, ks => match takeU ks with
    | some (p, n, r) => match asKs ps r with
      | some (q, l) => some (p ++ q, .u n :: l)
      | none => none
    | none => none
  | .b :: ps, .c s :: r => match asBit s with
    | some x => match asKs ps r with
      | some (q, l) => some (q, .b x :: l)
      | none => none
    | none => none
  | .i :: ps, .c s :: r => match asI (.sc s) with
    | some (.i64, x) => match asKs ps r with
      | some (q, l) => some (q, .i x :: l)
      | none => none
    | _ => none
  | [.y n], ks => match asBy n (.agg ks) with
    | some g => some ([], [.y n g])
    | none => none
  | _, _ => none
def At.sk : At → SK
  | .u n => .u n
  | .b x => .c (.val (.bool x))
  | .i n => .c (.val (.int .i64 n))
  | .y n g => .f .u8 n g
theorem concs_app (ρ : Rho) (k : SK) {xs ys : List SK} (h : concs ρ xs = concs ρ ys) : concs ρ (k :: xs) = concs ρ (k :: ys) := by
  rw [concs_cons ρ k xs, concs_cons ρ k ys, h]
theorem asKs_sound (ρ : Rho) : ∀ {ps : List PK} {ks : List SK} {q : List Prop} {l : List At}, asKs ps ks = some (q, l) → Ok q → concs ρ ks = concs ρ (l.map At.sk)
  | [], [], q, l, h, _ => by simp only [asKs, Option.some.injEq, Prod.mk.injEq] at h; obtain ⟨_, rfl⟩ := h; rfl
  | [], _ :: _, q, l, h, _ => by simp [asKs] at h
  | .u :: ps, ks, q, l, h, hq => by
    simp only [asKs] at h
    split at h
    · rename_i p n r hu
      split at h
      · rename_i q' l' hr
        simp only [Option.some.injEq, Prod.mk.injEq] at h
        obtain ⟨rfl, rfl⟩ := h
        obtain ⟨h1, h2⟩ := Ok.append.1 hq
        rw [takeU_sound hu h1 ρ]
        exact concs_app ρ _ (asKs_sound ρ hr h2)
      · cases h
    · cases h
  | .i :: ps, [], q, l, h, _ => by simp [asKs] at h
  | .i :: ps, .u _ :: _, q, l, h, _ => by simp [asKs] at h
  | .i :: ps, .f _ _ _ :: _, q, l, h, _ => by simp [asKs] at h
  | .i :: ps, .c s :: r, q, l, h, hq => by
    simp only [asKs] at h
    split at h
    · rename_i x hx
      split at h
      · rename_i q' l' hr
        simp only [Option.some.injEq, Prod.mk.injEq] at h
        obtain ⟨rfl, rfl⟩ := h
        have ih := asKs_sound ρ hr hq
        rw [List.map_cons, concs_cons, concs_cons ρ (At.sk (.i x)), ih]
        have e : s.conc ρ = .int .i64 x := asI_sound hx ρ
        simp [concs, flat, SK.cells, At.sk, e, show ∀ v, (SC.val v).conc ρ = v from fun _ => rfl]
      · cases h
    · cases h
  | .y n :: p :: ps, ks, q, l, h, _ => by simp [asKs] at h
  | [.y n], ks, q, l, h, hq => by
    simp only [asKs] at h
    split at h
    · rename_i g hg
      simp only [Option.some.injEq, Prod.mk.injEq] at h
      obtain ⟨rfl, rfl⟩ := h
      have := asBy_sound hg ρ
      simp only [SA.conc, Value.agg.injEq] at this
      have := congrArg Array.toList this
      simpa [At.sk] using this
    · cases h
  | .b :: ps, [], q, l, h, _ => by simp [asKs] at h
  | .b :: ps, .u _ :: _, q, l, h, _ => by simp [asKs] at h
  | .b :: ps, .f _ _ _ :: _, q, l, h, _ => by simp [asKs] at h
  | .b :: ps, .c s :: r, q, l, h, hq => by
    simp only [asKs] at h
    split at h
    · rename_i x hx
      split at h
      · rename_i q' l' hr
        simp only [Option.some.injEq, Prod.mk.injEq] at h
        obtain ⟨rfl, rfl⟩ := h
        have ih := asKs_sound ρ hr hq
        rw [List.map_cons, concs_cons, concs_cons ρ (At.sk (.b x)), ih]
        have e := asBit_sound hx ρ
        simp [concs, flat, SK.cells, At.sk, e, show ∀ v, (SC.val v).conc ρ = v from fun _ => rfl]
      · cases h
    · cases h

def isPtr : SC → Bool
  | .ptr _ _ => true
  | .val (.pointer _) => true
  | _ => false
def asArg : AP → SA → Option (List Prop × List At)
  | .hand, .agg ks => match takeU ks with
    | some (p, n, [.c s]) => if isPtr s then some (p, [.u n]) else none
    | _ => none
  | .str ps, .agg ks => asKs ps ks
  | .int k, x => match asI x with
    | some (k', n) => if k' = k then some ([], [.i n]) else none
    | none => none
  | .bit, .sc s => match asBit s with
    | some x => some ([], [.b x])
    | none => none
  | _, _ => none
/-- An argument that stands for others of its shape; v: the address. -/
def mkArg : AP → List At → Option Addr → SA
  | .hand, [.u n], v => .agg [.u n, .c (.val (.pointer v))]
  | .str _, l, _ => .agg (l.map At.sk)
  | .int k, [.i n], _ => sI k n
  | .bit, [.b x], _ => sB x
  | _, _, _ => .agg []
theorem asArg_sound {ap : AP} {x : SA} {q : List Prop} {l : List At} (h : asArg ap x = some (q, l)) (hq : Ok q) (ρ : Rho) : ∃ v, x.conc ρ = (mkArg ap l v).conc ρ := by
  unfold asArg at h
  split at h
  · rename_i ks
    split at h
    · rename_i p n s hu
      split at h
      · rename_i hs
        simp only [Option.some.injEq, Prod.mk.injEq] at h
        obtain ⟨rfl, rfl⟩ := h
        obtain ⟨v, hv⟩ : ∃ v, s.conc ρ = .pointer v := by
          unfold isPtr at hs
          split at hs
          · exact ⟨_, rfl⟩
          · exact ⟨_, rfl⟩
          · cases hs
        refine ⟨v, ?_⟩
        simp only [SA.conc, mkArg, takeU_sound hu hq ρ]
        simp [concs, flat, SK.cells, hv, show ∀ v, (SC.val v).conc ρ = v from fun _ => rfl]
      · cases h
    · cases h
  · rename_i ps ks
    exact ⟨none, by simp only [SA.conc, mkArg, asKs_sound ρ h hq]⟩
  · rename_i k x'
    split at h
    · rename_i k' n hi
      split at h
      · rename_i hk
        subst hk
        simp only [Option.some.injEq, Prod.mk.injEq] at h
        obtain ⟨rfl, rfl⟩ := h
        exact ⟨none, asI_canon hi ρ⟩
      · cases h
    · cases h
  · split at h
    · rename_i b hb
      simp only [Option.some.injEq, Prod.mk.injEq] at h
      obtain ⟨rfl, rfl⟩ := h
      exact ⟨none, asBit_sound hb ρ⟩
    · cases h
  · cases h
theorem mkArg_bnd (ap : AP) (l : List At) (v : Option Addr) : (mkArg ap l v).bnd none0 := by
  unfold mkArg
  split
  · intro k hk
    simp only [List.mem_cons, List.not_mem_nil, or_false] at hk
    rcases hk with rfl | rfl <;> trivial
  · intro k hk
    simp only [List.mem_map] at hk
    obtain ⟨a, _, rfl⟩ := hk
    cases a <;> trivial
  · trivial
  · trivial
  · intro k hk
    simp at hk
def asArgs : List AP → List SA → Option (List Prop × List (List At))
  | [], [] => some ([], [])
  | ap :: sh, x :: r => match asArg ap x with
    | some (p, l) => match asArgs sh r with
      | some (q, ls) => some (p ++ q, l :: ls)
      | none => none
    | none => none
  | _, _ => none
def mkArgs : List AP → List (List At) → List (Option Addr) → List SA
  | ap :: sh, l :: ls, vs => mkArg ap l (vs.headD none) :: mkArgs sh ls vs.tail
  | _, _, _ => []
theorem asArgs_sound (ρ : Rho) : ∀ {sh : List AP} {xs : List SA} {q : List Prop} {ls : List (List At)}, asArgs sh xs = some (q, ls) → Ok q → ∃ vs, xs.map (SA.conc ρ) = (mkArgs sh ls vs).map (SA.conc ρ)
  | [], [], q, ls, h, _ => ⟨[], by simp only [asArgs, Option.some.injEq, Prod.mk.injEq] at h; obtain ⟨_, rfl⟩ := h; rfl⟩
  | [], _ :: _, q, ls, h, _ => by simp [asArgs] at h
  | _ :: _, [], q, ls, h, _ => by simp [asArgs] at h
  | ap :: sh, x :: r, q, ls, h, hq => by
    simp only [asArgs] at h
    split at h
    · rename_i p l hx
      split at h
      · rename_i q' l' hr
        simp only [Option.some.injEq, Prod.mk.injEq] at h
        obtain ⟨rfl, rfl⟩ := h
        obtain ⟨h1, h2⟩ := Ok.append.1 hq
        obtain ⟨v, hv⟩ := asArg_sound hx h1 ρ
        obtain ⟨vs, hvs⟩ := asArgs_sound ρ hr h2
        exact ⟨v :: vs, by simp only [mkArgs, List.map_cons, List.headD_cons, List.tail_cons, hv, hvs]⟩
      · cases h
    · cases h
theorem mkArgs_bnd : ∀ (sh : List AP) (ls : List (List At)) (vs : List (Option Addr)), ∀ x ∈ mkArgs sh ls vs, x.bnd none0
  | [], _, _, x, h => by simp [mkArgs] at h
  | _ :: _, [], _, x, h => by simp [mkArgs] at h
  | ap :: sh, l :: ls, vs, x, h => by
    simp only [mkArgs, List.mem_cons] at h
    rcases h with rfl | h
    · exact mkArg_bnd _ _ _
    · exact mkArgs_bnd sh ls _ x h

/-- A card for arguments of such shapes, under a condition. -/
def specA (sh : List AP) (c : List (List At) → List Prop) (g : List (List At) → SV) : FSpec := fun args =>
  match asArgs sh args with
  | some (p, ls) => some (p ++ c ls, g ls)
  | none => none
theorem FnOK_A {P : Program} {cx : Cx} (hcx : CxOK P cx) {sh : List AP} {c : List (List At) → List Prop} {g : List (List At) → SV} {iv : List (List At) → List (Nat × Hint)} {N : Nat} {f : Nat} {fn : Func} (hf : P.funcs[f]? = some fn) (hb : fn.body.isSome = true) (hn : (fn.name == "runtime.NumGoroutine") = false) (hg : ∀ ls, (g ls).bnd none0)
    (h : ∀ ls vs, Ok (c ls) → Owes P cx (iv ls) N fn (mkArgs sh ls vs) (g ls)) : FnOKg P cx.gl f (specA sh c g) := by
  refine FnOK_of hf hb hn fun args ps sv hs hp => ?_
  unfold specA at hs
  split at hs
  · rename_i p ls ha
    simp only [Option.some.injEq, Prod.mk.injEq] at hs
    obtain ⟨rfl, rfl⟩ := hs
    obtain ⟨o1, o2⟩ := Ok.append.1 hp
    refine ⟨hg ls, fun ρ w hzz hgg _ => ?_⟩
    obtain ⟨vs, hv⟩ := asArgs_sound ρ ha o1
    rw [hv]
    refine (calls_of_owes0 hcx hf hb (mkArgs_bnd sh ls vs) (h ls vs o2) ρ w hzz hgg).mono ?_
    rintro e w' ⟨v, rfl, ⟨ρ', hr⟩, hbl⟩
    exact ⟨v, rfl, rep_none0 (hg ls) hr, hbl⟩
  · cases hs
end Go.Sx
end

section
/-
  Euclid's way, and several of its steps told by the highest bits: numbers alone.
-/
namespace Go.Sx

/-- Euclid's steps: what is left, and how often a number goes into it. -/
def eu : Nat → Nat → Nat → Int → Int → Nat × Int
  | 0, r0, _, s0, _ => (r0, s0)
  | n + 1, r0, r1, s0, s1 => if r1 = 0 then (r0, s0) else eu n r1 (r0 % r1) s1 (s0 - ((r0 / r1 : Nat) : Int) * s1)
theorem eu_more : ∀ (n k r0 r1 : Nat) (s0 s1 : Int), r1 ≤ n → r1 ≤ k → eu n r0 r1 s0 s1 = eu k r0 r1 s0 s1
  | 0, 0, _, _, _, _, _, _ => rfl
  | 0, k + 1, r0, r1, s0, s1, h, _ => by
    have : r1 = 0 := by omega
    simp only [eu, if_pos this]
  | n + 1, 0, r0, r1, s0, s1, _, h => by
    have : r1 = 0 := by omega
    simp only [eu, if_pos this]
  | n + 1, k + 1, r0, r1, s0, s1, h, h' => by
    simp only [eu]
    by_cases e : r1 = 0
    · rw [if_pos e, if_pos e]
    · have := Nat.mod_lt r0 (Nat.pos_of_ne_zero e)
      rw [if_neg e, if_neg e, eu_more n k _ _ _ _ (by omega) (by omega)]
def euE (r0 r1 : Nat) (s0 s1 : Int) : Nat × Int := eu r1 r0 r1 s0 s1
theorem euE_zero (r0 : Nat) (s0 s1 : Int) : euE r0 0 s0 s1 = (r0, s0) := rfl
theorem euE_step {r0 r1 : Nat} (h : r1 ≠ 0) (s0 s1 : Int) : euE r0 r1 s0 s1 = euE r1 (r0 % r1) s1 (s0 - ((r0 / r1 : Nat) : Int) * s1) := by
  unfold euE
  obtain ⟨k, rfl⟩ : ∃ k, r1 = k + 1 := ⟨r1 - 1, by omega⟩
  rw [eu, if_neg h]
  have : r0 % (k + 1) < k + 1 := Nat.mod_lt r0 (Nat.succ_pos k)
  exact eu_more _ _ _ _ _ _ (by omega) (Nat.le_refl _)
theorem eu_gcd : ∀ (n r0 r1 : Nat) (s0 s1 : Int), r1 ≤ n → (eu n r0 r1 s0 s1).1 = Nat.gcd r1 r0
  | 0, r0, r1, s0, s1, h => by
    have : r1 = 0 := by omega
    subst this
    simp [eu]
  | n + 1, r0, r1, s0, s1, h => by
    simp only [eu]
    by_cases e : r1 = 0
    · subst e
      simp
    · have := Nat.mod_lt r0 (Nat.pos_of_ne_zero e)
      rw [if_neg e, eu_gcd n _ _ _ _ (by omega), Nat.gcd_rec r1 r0]
theorem euE_gcd (r0 r1 : Nat) (s0 s1 : Int) : (euE r0 r1 s0 s1).1 = Nat.gcd r1 r0 := eu_gcd _ _ _ _ _ (Nat.le_refl _)

/-- What holds at each of Euclid's steps. -/
structure EuK (m a r0 r1 : Nat) (s0 s1 : Int) : Prop where
  lt : r1 < r0
  d0 : (m : Int) ∣ (a : Int) * s0 - r0
  d1 : (m : Int) ∣ (a : Int) * s1 - r1
  sg : (s0 ≤ 0 ∧ 0 ≤ s1 ∧ (r0 : Int) * s1 - (r1 : Int) * s0 = m) ∨ (0 ≤ s0 ∧ s1 ≤ 0 ∧ (r1 : Int) * s0 - (r0 : Int) * s1 = m)
  le : s0.natAbs ≤ s1.natAbs
  tw : r1 = 0 → 2 * s0.natAbs ≤ s1.natAbs
theorem EuK.start {m a : Nat} (h : a < m) : EuK m a m a 0 1 where
  lt := h
  d0 := ⟨-1, by omega⟩
  d1 := ⟨0, by omega⟩
  sg := .inl ⟨by omega, by omega, by omega⟩
  le := by decide
  tw := fun _ => by decide
theorem EuK.step {m a r0 r1 : Nat} {s0 s1 : Int} (k : EuK m a r0 r1 s0 s1) (h : r1 ≠ 0) : EuK m a r1 (r0 % r1) s1 (s0 - ((r0 / r1 : Nat) : Int) * s1) := by
  have hr := Nat.div_add_mod r0 r1
  have hlt := Nat.mod_lt r0 (Nat.pos_of_ne_zero h)
  have hq : 1 ≤ r0 / r1 := by
    rw [Nat.le_div_iff_mul_le (Nat.pos_of_ne_zero h)]
    have := k.lt
    omega
  have hq2 : r0 % r1 = 0 → 2 ≤ r0 / r1 := by
    intro e
    have h1 := k.lt
    rcases Nat.lt_or_ge (r0 / r1) 2 with g | g
    · have : r0 / r1 = 1 := by omega
      rw [this, e] at hr
      omega
    · exact g
  have e0 : (r0 : Int) = (r1 : Int) * ((r0 / r1 : Nat) : Int) + ((r0 % r1 : Nat) : Int) := by exact_mod_cast hr.symm
  generalize r0 / r1 = q at *
  generalize r0 % r1 = r2 at *
  have hab : s0.natAbs ≤ s1.natAbs := k.le
  have hsg := k.sg
  have hz : ∀ t : Nat, t ≤ q → ∃ z : Int, (q : Int) * s1 = z ∧ (0 ≤ s1 → (t : Int) * s1 ≤ z) ∧ (s1 ≤ 0 → z ≤ (t : Int) * s1) := by
    intro t ht
    refine ⟨_, rfl, fun g => Int.mul_le_mul_of_nonneg_right (by omega) g, fun g => ?_⟩
    have := Int.mul_le_mul_of_nonneg_right (show (t : Int) ≤ q by omega) (show 0 ≤ -s1 by omega)
    rw [Int.mul_neg, Int.mul_neg] at this
    omega
  refine ⟨hlt, k.d1, ?_, ?_, ?_, ?_⟩
  · obtain ⟨u, hu⟩ := k.d0
    obtain ⟨v, hv⟩ := k.d1
    refine ⟨u - q * v, ?_⟩
    rw [Int.mul_sub (m : Int), ← Int.mul_assoc (m : Int), Int.mul_comm (m : Int) q, Int.mul_assoc (q : Int), ← hu, ← hv]
    grind
  · rcases hsg with ⟨g1, g2, g3⟩ | ⟨g1, g2, g3⟩
    · refine .inr ⟨g2, ?_, by grind⟩
      obtain ⟨z, hz1, hz2, _⟩ := hz 1 hq
      have := hz2 g2
      omega
    · refine .inl ⟨g2, ?_, by grind⟩
      obtain ⟨z, hz1, _, hz3⟩ := hz 1 hq
      have := hz3 g2
      omega
  · obtain ⟨z, hz1, hz2, hz3⟩ := hz 1 hq
    rw [hz1]
    rcases hsg with ⟨g1, g2, g3⟩ | ⟨g1, g2, g3⟩
    · have := hz2 g2; omega
    · have := hz3 g2; omega
  · intro e
    obtain ⟨z, hz1, hz2, hz3⟩ := hz 2 (hq2 e)
    rw [hz1]
    rcases hsg with ⟨g1, g2, g3⟩ | ⟨g1, g2, g3⟩
    · have := hz2 g2; omega
    · have := hz3 g2; omega
theorem EuK.half {m a r0 : Nat} {s0 s1 : Int} (k : EuK m a r0 0 s0 s1) : 2 * s0.natAbs ≤ m := by
  have h1 := k.tw rfl
  have h2 := k.lt
  have h3 : r0 * s1.natAbs = m := by
    rcases k.sg with ⟨_, g, e⟩ | ⟨_, g, e⟩
    · obtain ⟨n, rfl⟩ := Int.eq_ofNat_of_zero_le g
      simp only [Int.natAbs_natCast]
      have : ((r0 * n : Nat) : Int) = m := by rw [Int.natCast_mul]; simpa using e
      exact_mod_cast this
    · obtain ⟨n, hn⟩ := Int.eq_ofNat_of_zero_le (show 0 ≤ -s1 by omega)
      obtain rfl : s1 = -(n : Int) := by omega
      simp only [Int.natAbs_neg, Int.natAbs_natCast]
      have : ((r0 * n : Nat) : Int) = m := by rw [Int.natCast_mul]; rw [Int.mul_neg] at e; omega
      exact_mod_cast this
  have : 1 * s1.natAbs ≤ r0 * s1.natAbs := Nat.mul_le_mul_right _ h2
  omega

/-- Several steps at once. -/
structure Goes (r0 r1 R0 R1 : Nat) (a b c d : Int) : Prop where
  e0 : (R0 : Int) = a * r0 + b * r1
  e1 : (R1 : Int) = c * r0 + d * r1
  gE : ∀ s0 s1, euE r0 r1 s0 s1 = euE R0 R1 (a * s0 + b * s1) (c * s0 + d * s1)
  gK : ∀ (m x : Nat) (s0 s1 : Int), EuK m x r0 r1 s0 s1 → EuK m x R0 R1 (a * s0 + b * s1) (c * s0 + d * s1)
theorem Goes.id (r0 r1 : Nat) : Goes r0 r1 r0 r1 1 0 0 1 where
  e0 := by omega
  e1 := by omega
  gE s0 s1 := by rw [show (1 : Int) * s0 + 0 * s1 = s0 by omega, show (0 : Int) * s0 + 1 * s1 = s1 by omega]
  gK m x s0 s1 k := by rw [show (1 : Int) * s0 + 0 * s1 = s0 by omega, show (0 : Int) * s0 + 1 * s1 = s1 by omega]; exact k
theorem Goes.step {r0 r1 R0 R1 : Nat} {a b c d : Int} (g : Goes r0 r1 R0 R1 a b c d) (h : R1 ≠ 0) {q : Int} (hq : ((R0 / R1 : Nat) : Int) = q) : Goes r0 r1 R1 (R0 % R1) c d (a - q * c) (b - q * d) where
  e0 := g.e1
  e1 := by
    have h1 : (R0 : Int) = (R1 : Int) * ((R0 / R1 : Nat) : Int) + ((R0 % R1 : Nat) : Int) := by exact_mod_cast (Nat.div_add_mod R0 R1).symm
    have h2 := g.e0
    have h3 := g.e1
    rw [hq] at h1
    grind
  gE s0 s1 := by
    rw [g.gE, euE_step h, hq]
    congr 1
    grind
  gK m x s0 s1 k := by
    have := (g.gK m x s0 s1 k).step h
    rw [hq] at this
    rw [show (a - q * c) * s0 + (b - q * d) * s1 = a * s0 + b * s1 - q * (c * s0 + d * s1) by grind]
    exact this

/-- Steps as long as the highest bits tell them. -/
def fs : Nat → Int → Int → Int → Int → Int → Int → Int × Int × Int × Int
  | 0, _, _, a, b, c, d => (a, b, c, d)
  | n + 1, x, y, a, b, c, d => if y + c = 0 ∨ y + d = 0 then (a, b, c, d) else if (x + a) / (y + c) ≠ (x + b) / (y + d) then (a, b, c, d) else fs n y (x - (x + a) / (y + c) * y) c d (a - (x + a) / (y + c) * c) (b - (x + a) / (y + c) * d)

theorem low_side {y c d e0 e1 B t : Int} (hs : (c ≤ 0 ∧ 0 ≤ d) ∨ (0 ≤ c ∧ d ≤ 0)) (h0 : 0 ≤ e0) (h0' : e0 ≤ B) (h1 : 0 ≤ e1) (h1' : e1 ≤ B) (hc : t ≤ y + c) (hd : t ≤ y + d) : t * B ≤ y * B + c * e0 + d * e1 := by
  rcases hs with ⟨g1, g2⟩ | ⟨g1, g2⟩
  · have p1 := Int.mul_le_mul_of_nonpos_left g1 h0'
    have p2 := Int.mul_nonneg g2 h1
    have p3 := Int.mul_le_mul_of_nonneg_right hc (show 0 ≤ B by omega)
    rw [Int.add_mul] at p3
    omega
  · have p1 := Int.mul_le_mul_of_nonpos_left g2 h1'
    have p2 := Int.mul_nonneg g1 h0
    have p3 := Int.mul_le_mul_of_nonneg_right hd (show 0 ≤ B by omega)
    rw [Int.add_mul] at p3
    omega
theorem high_side {y c d e0 e1 B t : Int} (hs : (c ≤ 0 ∧ 0 ≤ d) ∨ (0 ≤ c ∧ d ≤ 0)) (h0 : 0 ≤ e0) (h0' : e0 ≤ B) (h1 : 0 ≤ e1) (h1' : e1 ≤ B) (hc : y + c ≤ t) (hd : y + d ≤ t) : y * B + c * e0 + d * e1 ≤ t * B := by
  have := low_side (y := -y) (c := -c) (d := -d) (t := -t) (by omega) h0 h0' h1 h1' (by omega) (by omega)
  rw [Int.neg_mul, Int.neg_mul, Int.neg_mul, Int.neg_mul] at this
  omega
theorem nn_of_mul {x n : Int} (hn : 0 < n) (h : 0 ≤ x * n) : 0 ≤ x := by
  rcases Int.lt_or_le x 0 with g | g
  · have := Int.mul_neg_of_neg_of_pos g hn
    omega
  · exact g
theorem pos_of_mul' {x n : Int} (hn : 0 < n) (h : 0 < x * n) : 0 < x := by
  rcases Int.lt_or_le 0 x with g | g
  · exact g
  · have := Int.mul_nonpos_of_nonpos_of_nonneg g (Int.le_of_lt hn)
    omega

theorem ring1 {r0 r1 N x0 y0 B e0 e1 c d : Int} (h0 : r0 * N = x0 * B + e0) (h1 : r1 * N = y0 * B + e1) : (c * r0 + d * r1) * N = (c * x0 + d * y0) * B + c * e0 + d * e1 := by grind
theorem ring2 {r0 r1 N x0 y0 B e0 e1 a b c d q : Int} (h0 : r0 * N = x0 * B + e0) (h1 : r1 * N = y0 * B + e1) : (a * r0 + b * r1 - q * (c * r0 + d * r1)) * N = (a * x0 + b * y0 - q * (c * x0 + d * y0)) * B + (a - q * c) * e0 + (b - q * d) * e1 := by grind
theorem ring3 {r0 r1 N x0 y0 B e0 e1 a b c d q : Int} (h0 : r0 * N = x0 * B + e0) (h1 : r1 * N = y0 * B + e1) : (a * r0 + b * r1 - q * (c * r0 + d * r1) - (c * r0 + d * r1)) * N = (a * x0 + b * y0 - q * (c * x0 + d * y0) - (c * x0 + d * y0)) * B + (a - q * c - c) * e0 + (b - q * d - d) * e1 := by grind
theorem ring4 {x y a c q u : Int} (h : (y + c) * q + u = x + a) : x - q * y + (a - q * c) = u := by grind
theorem ring5 {x0 y0 x y a b c d q : Int} (ex : x = a * x0 + b * y0) (ey : y = c * x0 + d * y0) : (c * (b - q * d) - d * (a - q * c)) * (x0 + 1) = (b - q * d) * (y + c) - d * (x - q * y + (a - q * c)) := by subst ex ey; grind
theorem ring6 {x0 y0 x y a b c d q : Int} (ex : x = a * x0 + b * y0) (ey : y = c * x0 + d * y0) : (c * (b - q * d) - d * (a - q * c)) * y0 = c * (x - q * y + (a - q * c)) - (a - q * c) * (y + c) := by subst ex ey; grind
theorem ring7 {a b c d q : Int} : c * (b - q * d) - d * (a - q * c) = -(a * d - b * c) := by grind
theorem ring8 {x0 y0 x y a b c d q : Int} (ex : x = a * x0 + b * y0) (ey : y = c * x0 + d * y0) : x - q * y = (a - q * c) * x0 + (b - q * d) * y0 := by subst ex ey; grind

/-- What holds where the highest bits tell the steps. W: what they are below. -/
structure FsK (r0 r1 : Nat) (N B x0 y0 e0 e1 W : Int) (x y a b c d : Int) : Prop where
  g : ∃ R0 R1 : Nat, Goes r0 r1 R0 R1 a b c d ∧ (R1 < r1 ∨ R1 = r1 ∧ b = 0)
  ex : x = a * x0 + b * y0
  ey : y = c * x0 + d * y0
  p1 : 1 ≤ x + a ∧ x + a ≤ W
  p2 : 1 ≤ x + b ∧ x + b ≤ W
  p3 : 0 ≤ y + c ∧ y + c ≤ W
  p4 : 0 ≤ y + d ∧ y + d ≤ W
  sg : (0 ≤ a ∧ b ≤ 0 ∧ c ≤ 0 ∧ 0 ≤ d ∧ a * d - b * c = 1) ∨ (a ≤ 0 ∧ 0 ≤ b ∧ 0 ≤ c ∧ d ≤ 0 ∧ a * d - b * c = -1)
  ba : a.natAbs ≤ W.toNat
  bb : b.natAbs ≤ W.toNat
  bc : c.natAbs ≤ W.toNat
  bd : d.natAbs ≤ W.toNat

structure FsC (r0 r1 : Nat) (N B x0 y0 e0 e1 W : Int) : Prop where
  N0 : 0 < N
  h0 : (r0 : Int) * N = x0 * B + e0
  h1 : (r1 : Int) * N = y0 * B + e1
  l0 : 0 ≤ e0 ∧ e0 < B
  l1 : 0 ≤ e1 ∧ e1 < B
  x1 : 1 ≤ x0 ∧ x0 < W
  y1 : 0 ≤ y0 ∧ y0 < W

theorem FsK.start {r0 r1 : Nat} {N B x0 y0 e0 e1 W : Int} (k : FsC r0 r1 N B x0 y0 e0 e1 W) : FsK r0 r1 N B x0 y0 e0 e1 W x0 y0 1 0 0 1 := by
  obtain ⟨_, _, _, _, _, x1, y1⟩ := k
  refine ⟨⟨r0, r1, Goes.id _ _, .inr ⟨rfl, rfl⟩⟩, by omega, by omega, by omega, by omega, by omega, by omega, .inl (by omega), ?_, ?_, ?_, ?_⟩ <;> omega

theorem sg_next {a b c d q : Int} (hq : 0 ≤ q) (sg : (0 ≤ a ∧ b ≤ 0 ∧ c ≤ 0 ∧ 0 ≤ d ∧ a * d - b * c = 1) ∨ (a ≤ 0 ∧ 0 ≤ b ∧ 0 ≤ c ∧ d ≤ 0 ∧ a * d - b * c = -1)) :
    (0 ≤ c ∧ d ≤ 0 ∧ a - q * c ≤ 0 ∧ 0 ≤ b - q * d ∧ c * (b - q * d) - d * (a - q * c) = 1) ∨ (c ≤ 0 ∧ 0 ≤ d ∧ 0 ≤ a - q * c ∧ b - q * d ≤ 0 ∧ c * (b - q * d) - d * (a - q * c) = -1) := by
  have sgc : (0 ≤ c → 0 ≤ q * c) ∧ (c ≤ 0 → q * c ≤ 0) := ⟨fun h => Int.mul_nonneg hq h, fun h => Int.mul_nonpos_of_nonneg_of_nonpos hq h⟩
  have sgd : (0 ≤ d → 0 ≤ q * d) ∧ (d ≤ 0 → q * d ≤ 0) := ⟨fun h => Int.mul_nonneg hq h, fun h => Int.mul_nonpos_of_nonneg_of_nonpos hq h⟩
  rw [ring7]
  generalize a * d - b * c = D at *
  generalize q * c = Z at *
  generalize q * d = Y at *
  rcases sg with ⟨i1, i2, i3, i4, i5⟩ | ⟨i1, i2, i3, i4, i5⟩
  · refine .inr ⟨i3, i4, ?_, ?_, ?_⟩ <;> omega
  · refine .inl ⟨i3, i4, ?_, ?_, ?_⟩ <;> omega
theorem quot_told {R0 R1 : Nat} {N B e0 e1 x' y c d c' d' q : Int} (N0 : 0 < N) (B0 : 0 < B) (l0 : 0 ≤ e0 ∧ e0 < B) (l1 : 0 ≤ e1 ∧ e1 < B)
    (s1 : (R1 : Int) * N = y * B + c * e0 + d * e1) (s2 : ((R0 : Int) - q * R1) * N = x' * B + c' * e0 + d' * e1) (s3 : ((R0 : Int) - q * R1 - R1) * N = (x' - y) * B + (c' - c) * e0 + (d' - d) * e1)
    (sg : (0 ≤ c ∧ d ≤ 0 ∧ c' ≤ 0 ∧ 0 ≤ d') ∨ (c ≤ 0 ∧ 0 ≤ d ∧ 0 ≤ c' ∧ d' ≤ 0)) (p1 : 1 ≤ y + c) (p2 : 1 ≤ y + d) (p3 : 0 ≤ x' + c') (p4 : 0 ≤ x' + d') (p5 : x' + c' < y + c) (p6 : x' + d' < y + d) :
    R1 ≠ 0 ∧ ((R0 / R1 : Nat) : Int) = q := by
  have g1 : (c ≤ 0 ∧ 0 ≤ d) ∨ (0 ≤ c ∧ d ≤ 0) := by rcases sg with h | h <;> omega
  have g2 : (c' ≤ 0 ∧ 0 ≤ d') ∨ (0 ≤ c' ∧ d' ≤ 0) := by rcases sg with h | h <;> omega
  have g3 : (c' - c ≤ 0 ∧ 0 ≤ d' - d) ∨ (0 ≤ c' - c ∧ d' - d ≤ 0) := by rcases sg with h | h <;> omega
  have z1 : 0 < (R1 : Int) := by
    refine pos_of_mul' N0 ?_
    rw [s1]
    have := low_side (y := y) (c := c) (d := d) (t := 1) g1 l0.1 (Int.le_of_lt l0.2) l1.1 (Int.le_of_lt l1.2) p1 p2
    rw [Int.one_mul] at this
    exact Int.lt_of_lt_of_le B0 this
  have z2 : 0 ≤ (R0 : Int) - q * R1 := by
    refine nn_of_mul N0 ?_
    rw [s2]
    have := low_side (y := x') (c := c') (d := d') (t := 0) g2 l0.1 (Int.le_of_lt l0.2) l1.1 (Int.le_of_lt l1.2) p3 p4
    rwa [Int.zero_mul] at this
  have z3 : (R0 : Int) - q * R1 - R1 < 0 := by
    have : 0 < -((R0 : Int) - q * R1 - R1) := by
      refine pos_of_mul' N0 ?_
      rw [Int.neg_mul, s3]
      have := high_side (y := x' - y) (c := c' - c) (d := d' - d) (t := -1) g3 l0.1 (Int.le_of_lt l0.2) l1.1 (Int.le_of_lt l1.2) (by omega) (by omega)
      rw [Int.neg_mul, Int.one_mul] at this
      omega
    omega
  refine ⟨by omega, ?_⟩
  rw [Int.natCast_ediv]
  refine Int.le_antisymm ?_ (Int.le_ediv_of_mul_le z1 (by omega))
  have := Int.ediv_lt_of_lt_mul z1 (show (R0 : Int) < (q + 1) * R1 by rw [Int.add_mul]; omega)
  omega
theorem ent_le {w u c d c' d' y0 x0 W : Int} (hw : 1 ≤ w) (hu : 0 ≤ u) (x1 : x0 + 1 ≤ W) (y1 : y0 ≤ W)
    (sg : (0 ≤ c ∧ d ≤ 0 ∧ c' ≤ 0 ∧ 0 ≤ d' ∧ c * d' - d * c' = 1) ∨ (c ≤ 0 ∧ 0 ≤ d ∧ 0 ≤ c' ∧ d' ≤ 0 ∧ c * d' - d * c' = -1))
    (f1 : (c * d' - d * c') * (x0 + 1) = d' * w - d * u) (f2 : (c * d' - d * c') * y0 = c * u - c' * w) : c'.natAbs ≤ W.toNat ∧ d'.natAbs ≤ W.toNat := by
  have big : ∀ A : Int, (0 ≤ A → A ≤ A * w) ∧ (A ≤ 0 → A * w ≤ A) := by
    intro A
    refine ⟨fun h => ?_, fun h => ?_⟩
    · have := Int.mul_le_mul_of_nonneg_left hw h
      omega
    · have := Int.mul_le_mul_of_nonpos_left h hw
      omega
  have bD := big d'
  have bC := big c'
  have sgu : ∀ A : Int, (0 ≤ A → 0 ≤ A * u) ∧ (A ≤ 0 → A * u ≤ 0) := fun A => ⟨fun h => Int.mul_nonneg h hu, fun h => Int.mul_nonpos_of_nonpos_of_nonneg h hu⟩
  have uD := sgu d
  have uC := sgu c
  clear big sgu
  rcases sg with ⟨i1, i2, i3, i4, i5⟩ | ⟨i1, i2, i3, i4, i5⟩
  · rw [i5] at f1 f2
    have a1 := uC.1 i1
    have a2 := bC.2 i3
    have a3 := uD.2 i2
    have a4 := bD.1 i4
    clear uD uC bD bC
    generalize c' * w = z1 at *
    generalize d' * w = z2 at *
    generalize c * u = z3 at *
    generalize d * u = z4 at *
    omega
  · rw [i5] at f1 f2
    have a1 := uC.2 i1
    have a2 := bC.1 i3
    have a3 := uD.1 i2
    have a4 := bD.2 i4
    clear uD uC bD bC
    generalize c' * w = z1 at *
    generalize d' * w = z2 at *
    generalize c * u = z3 at *
    generalize d * u = z4 at *
    omega
theorem FsK.step {r0 r1 : Nat} {N B x0 y0 e0 e1 W x y a b c d q : Int} (k : FsC r0 r1 N B x0 y0 e0 e1 W) (f : FsK r0 r1 N B x0 y0 e0 e1 W x y a b c d) (hc : y + c ≠ 0) (hd : y + d ≠ 0) (q1 : (x + a) / (y + c) = q) (q2 : (x + b) / (y + d) = q) :
    FsK r0 r1 N B x0 y0 e0 e1 W y (x - q * y) c d (a - q * c) (b - q * d) ∧ x - q * y + (a - q * c) < y + c := by
  obtain ⟨⟨R0, R1, g, hg⟩, ex, ey, p1, p2, p3, p4, sg, ba, bb, bc, bd⟩ := f
  obtain ⟨N0, h0, h1, l0, l1, x1, y1⟩ := k
  have hq : 0 ≤ q := by rw [← q1]; exact Int.ediv_nonneg (Int.le_trans (by decide) p1.1) p3.1
  have hw : 1 ≤ y + c := by clear sg; omega
  have hw' : 1 ≤ y + d := by clear sg; omega
  have u1 : (y + c) * q + (x + a) % (y + c) = x + a := by rw [← q1]; exact Int.mul_ediv_add_emod _ _
  have u2 : (y + d) * q + (x + b) % (y + d) = x + b := by rw [← q2]; exact Int.mul_ediv_add_emod _ _
  have v1 := Int.emod_nonneg (x + a) hc
  have v2 := Int.emod_nonneg (x + b) hd
  have w1 := Int.emod_lt_of_pos (x + a) hw
  have w2 := Int.emod_lt_of_pos (x + b) hw'
  have t1 : x - q * y + (a - q * c) = (x + a) % (y + c) := ring4 u1
  have t2 : x - q * y + (b - q * d) = (x + b) % (y + d) := ring4 u2
  rw [← t1] at v1 w1
  rw [← t2] at v2 w2
  have E0 := g.e0
  have E1 := g.e1
  have s1 : (R1 : Int) * N = y * B + c * e0 + d * e1 := by rw [E1, ey]; exact ring1 h0 h1
  have s2 : ((R0 : Int) - q * R1) * N = (x - q * y) * B + (a - q * c) * e0 + (b - q * d) * e1 := by rw [E0, E1, ex, ey]; exact ring2 h0 h1
  have s3 : ((R0 : Int) - q * R1 - R1) * N = (x - q * y - y) * B + (a - q * c - c) * e0 + (b - q * d - d) * e1 := by rw [E0, E1, ex, ey]; exact ring3 h0 h1
  have nsg := sg_next hq sg
  have nsg' : (0 ≤ c ∧ d ≤ 0 ∧ a - q * c ≤ 0 ∧ 0 ≤ b - q * d) ∨ (c ≤ 0 ∧ 0 ≤ d ∧ 0 ≤ a - q * c ∧ b - q * d ≤ 0) := nsg.imp (fun h => ⟨h.1, h.2.1, h.2.2.1, h.2.2.2.1⟩) (fun h => ⟨h.1, h.2.1, h.2.2.1, h.2.2.2.1⟩)
  obtain ⟨hR, hQ⟩ := quot_told N0 (Int.lt_of_le_of_lt l0.1 l0.2) l0 l1 s1 s2 s3 nsg' hw hw' v1 v2 w1 w2
  have hmod := Nat.mod_lt R0 (Nat.pos_of_ne_zero hR)
  obtain ⟨b1, b2⟩ := ent_le hw v1 (show x0 + 1 ≤ W by omega) (show y0 ≤ W by omega) nsg (ring5 ex ey) (ring6 ex ey)
  refine ⟨⟨⟨R1, R0 % R1, g.step hR hQ, .inl ?_⟩, ey, ring8 ex ey, ⟨hw, p3.2⟩, ⟨hw', p4.2⟩, ⟨v1, Int.le_of_lt (Int.lt_of_lt_of_le w1 p3.2)⟩, ⟨v2, Int.le_of_lt (Int.lt_of_lt_of_le w2 p4.2)⟩, ?_, bc, bd, b1, b2⟩, w1⟩
  · rcases hg with h | h
    · exact Nat.lt_trans hmod h
    · rw [← h.1]; exact hmod
  · rcases nsg with h | h
    · exact .inl h
    · exact .inr h
theorem FsK.run {r0 r1 : Nat} {N B x0 y0 e0 e1 W : Int} (k : FsC r0 r1 N B x0 y0 e0 e1 W) : ∀ (n : Nat) (x y a b c d : Int), FsK r0 r1 N B x0 y0 e0 e1 W x y a b c d →
    ∃ x' y' : Int, FsK r0 r1 N B x0 y0 e0 e1 W x' y' (fs n x y a b c d).1 (fs n x y a b c d).2.1 (fs n x y a b c d).2.2.1 (fs n x y a b c d).2.2.2
  | 0, x, y, a, b, c, d, f => ⟨x, y, f⟩
  | n + 1, x, y, a, b, c, d, f => by
    simp only [fs]
    by_cases e1 : y + c = 0 ∨ y + d = 0
    · rw [if_pos e1]; exact ⟨x, y, f⟩
    · rw [if_neg e1]
      by_cases e2 : (x + a) / (y + c) ≠ (x + b) / (y + d)
      · rw [if_pos e2]; exact ⟨x, y, f⟩
      · rw [if_neg e2]
        exact FsK.run k n _ _ _ _ _ _ (f.step k (by omega) (by omega) rfl (by omega)).1
end Go.Sx
end

section
/-
  Package field: inverses: reckoned by the kernel. (Laid by program.)
-/
namespace Go.Proofs.Ytbjdchpncbgpnaa
open Go.Sx
set_option maxRecDepth 100000
def wrN (z : Int) : Nat := (z % (M256 : Int)).toNat
def signedC (z : Int) : List Prop := [i64ok z]
def signedG (z : Int) : SV := .one (sU (wrN z))
def highN (a : Nat) (n : Int) : Nat := a % M256 * 2 ^ n.toNat / 2 ^ 194
def highC (a : Nat) (n : Int) : List Prop := [0 ≤ n ∧ n ≤ 255, a % M256 * 2 ^ n.toNat < M256]
def highG (a : Nat) (n : Int) : SV := .one (sI .i64 ((highN a n : Nat) : Int))
def foN (p : Nat) : Int := ((256 - bitsN (p % M256) : Nat) : Int)
def foR (p q : Nat) : Int × Int × Int × Int := fs (highN q (foN p) + 1) (highN p (foN p) : Nat) (highN q (foN p) : Nat) 1 0 0 1
def foC : List (List At) → List Prop
  | [[.u p, .u q]] => [q % M256 < p % M256]
  | _ => [False]
def foG : List (List At) → SV
  | [[.u p, .u q]] => .tup [.agg [.u (wrN (foR p q).1), .u (wrN (foR p q).2.1), .u (wrN (foR p q).2.2.1), .u (wrN (foR p q).2.2.2)], sB (!((foR p q).2.1 == 0))]
  | _ => .tup []
def turnC : List (List At) → List Prop
  | [[.u _, .u _, .u _, .u _], [.u _, .u _]] => []
  | _ => [False]
def turnG : List (List At) → SV
  | [[.u a, .u b, .u c, .u d], [.u p, .u q]] => .one (.agg [.u (a * p + b * q), .u (c * p + d * q)])
  | _ => .tup []
def aboveG (a m : Nat) : SV := .one (sU (if 2 ^ 255 ≤ a % M256 then a + m else a))
def invN (a m : Nat) : Nat := if (euE m a 0 1).1 = 1 then ((euE m a 0 1).2 % (m : Int)).toNat else 0
def invE (a m : Nat) : Int := if (euE m a 0 1).1 = 1 then 0 else 5
def inverseC (a m : Nat) : List Prop := [a % M256 < m % M256]
def inverseG (a m : Nat) : SV := .tup [sU (invN (a % M256) (m % M256)), sI .i64 (invE (a % M256) (m % M256))]
def finvE (a m : Nat) : Int := if m % M256 = 0 then 7 else if a % M256 < m % M256 then invE (a % M256) (m % M256) else 6
def finvG (a m : Nat) : SV := .tup [sU (if finvE a m = 0 then invN (a % M256) (m % M256) else 0), sI .i64 (finvE a m)]
def zeroT : List SK := zeroU ++ zeroU ++ zeroU ++ zeroU
def invFo (p q : Nat) : Inv where
  X := Int × Int × Int × Int × Int × Int × Nat
  tm j := slotsAt 80 [(2, .one (.sc (.ptr 1 0))), (5, .one (sI .i64 j.1)), (6, .one (sI .i64 j.2.1)), (7, .one (sI .i64 j.2.2.1)), (8, .one (sI .i64 j.2.2.2.1)), (9, .one (sI .i64 j.2.2.2.2.1)), (10, .one (sI .i64 j.2.2.2.2.2.1))]
  ob _ := [.cells 86 [.u p, .u q] 0, .cells 88 zeroT 0]
  holds j := fs j.2.2.2.2.2.2 j.1 j.2.1 j.2.2.1 j.2.2.2.1 j.2.2.2.2.1 j.2.2.2.2.2.1 = foR p q ∧ (j.2.1 + j.2.2.2.2.1).toNat < j.2.2.2.2.2.2 ∧
    ∃ N B e0 e1 : Int, FsC (p % M256) (q % M256) N B (highN p (foN p) : Nat) (highN q (foN p) : Nat) e0 e1 (2 ^ 62) ∧ FsK (p % M256) (q % M256) N B (highN p (foN p) : Nat) (highN q (foN p) : Nat) e0 e1 (2 ^ 62) j.1 j.2.1 j.2.2.1 j.2.2.2.1 j.2.2.2.2.1 j.2.2.2.2.2.1
  less j := j.2.2.2.2.2.2
def cxFo : Cx := [(80, specU noughtsG), (93, specUJ highC highG), (94, specI signedC signedG)]
def cxTurn : Cx := [(82, specUU mulG), (13, specUU addG)]
def cxAbove : Cx := [(13, specUU addG)]
def invInv (a m : Nat) : Inv where
  X := Nat × Nat × Int × Int
  tm _ := slotsAt 44 [(2, .one (.sc (.ptr 0 0))), (3, .one (.sc (.ptr 1 0))), (4, .one (.sc (.ptr 2 0))), (6, .one (.sc (.ptr 3 0))), (7, .one (.sc (.ptr 4 0)))]
  ob j := [.cells 24 [.u a] 0, .cells 24 [.u m] 0, .cells 24 zeroU 0, .cells 86 [.u j.1, .u j.2.1] 0, .cells 86 [.u (wrN j.2.2.1), .u (wrN j.2.2.2)] 0]
  holds j := EuK (m % M256) (a % M256) j.1 j.2.1 j.2.2.1 j.2.2.2 ∧ euE j.1 j.2.1 j.2.2.1 j.2.2.2 = euE (m % M256) (a % M256) 0 1 ∧ j.1 ≤ m % M256
  less j := j.2.1
def cxInverse : Cx := [(86, specA [.str [.u, .u]] foC foG), (88, specA [.str [.u, .u, .u, .u], .str [.u, .u]] turnC turnG), (89, specUU aboveG), (17, specUU dmG), (14, specUU subG)]
def cxInv : Cx := [(77, specUU cmpG), (66, specUUC inverseC inverseG)]
-- VC vc_signed HASH 112e6f980bb1209c
theorem vc_signed (z : Int) :
    Owes Try.prog Cx.none [] 100 Try.f94 [sI .i64 z] (signedG z) =
    (let x1 : Int := Go.IntKind.u64.wrap (z.fdiv (9223372036854775808 : Int)); ((0 : Int) ≤ Go.IntKind.u64.wrap z ∧ Go.IntKind.u64.wrap z < (18446744073709551616 : Int)) ∧ ((0 : Int) ≤ x1 ∧ x1 < (18446744073709551616 : Int)) ∧ ((0 : Int) ≤ x1 ∧ x1 < (18446744073709551616 : Int)) ∧ ((0 : Int) ≤ x1 ∧ x1 < (18446744073709551616 : Int)) ∧ Go.Sx.join (Go.IntKind.u64.wrap z) x1 x1 x1 % Go.Sx.M256 = wrN z % Go.Sx.M256 ∧ True) := by kernel_rfl
-- END VC
-- VC vc_highest HASH 9c4b98e673ac0f89
theorem vc_highest (a : Nat) (n : Int) :
    Owes Try.prog Cx.none [] 100 Try.f93 [sU a, sI .i64 n] (highG a n) =
    (let x1 : Int := Go.IntKind.i64.wrap ((3 : Int) - Go.IntKind.i64.wrap (n.tdiv (64 : Int))); let x2 : Int := Go.IntKind.i64.wrap (x1 - (1 : Int)); let x3 : Int := Go.IntKind.i64.wrap ((64 : Int) - n.tmod (64 : Int)); let x4 : Int := Go.IntKind.u64.wrap (Go.Sx.limb a x1.toNat * (2 : Int) ^ Min.min (n.tmod (64 : Int)).toNat (64 : Nat)); ((0 : Int) ≤ x1 ∧ x1 < (4 : Int)) ∧ ((0 : Int) ≤ x1 ∧ x1 < (4 : Int)) ∧ (0 : Int) ≤ n.tmod (64 : Int) ∧ (Decidable.decide (x1 > (0 : Int)) = Bool.true → ((0 : Int) ≤ x2 ∧ x2 < (4 : Int)) ∧ ((0 : Int) ≤ x2 ∧ x2 < (4 : Int)) ∧ (0 : Int) ≤ x3 ∧ Go.IntKind.i64.wrap ((Go.IntKind.u64.wrap (↑(BitVec.ofInt (64 : Nat) x4 ||| BitVec.ofInt (64 : Nat) ((Go.Sx.limb a x2.toNat).fdiv ((2 : Int) ^ Min.min x3.toNat (64 : Nat)))).toNat : Int)).fdiv (4 : Int)) = (↑(highN a n) : Int)) ∧ (Decidable.decide (x1 > (0 : Int)) = Bool.false → Go.IntKind.i64.wrap (x4.fdiv (4 : Int)) = (↑(highN a n) : Int))) := by kernel_rfl
-- END VC
-- VC vc_foresee HASH 7882f32bd018081d
theorem vc_foresee (p q : Nat) :
    Owes Try.prog cxFo [(4, .inv (invFo p q))] 100 Try.f86 [.agg [.u p, .u q]] (foG [[.u p, .u q]]) =
    (let x1 : Nat := p % Go.Sx.M256; let x2 : Int := (↑((256 : Nat) - bitsN x1) : Int); let x3 : Nat := (2 : Nat) ^ x2.toNat; let x4 : Nat := q % Go.Sx.M256; let x5 : Nat := wrN (foR p q).fst % Go.Sx.M256; let x6 : Int := (foR p q).snd.fst; let x7 : Nat := wrN x6 % Go.Sx.M256; let x8 : Nat := wrN (foR p q).snd.snd.fst % Go.Sx.M256; let x9 : Nat := wrN (foR p q).snd.snd.snd % Go.Sx.M256; let x10 : Bool := !x6 == (0 : Int); ((0 : Int) ≤ x2 ∧ x2 ≤ (255 : Int)) ∧ x1 * x3 < Go.Sx.M256 ∧ ((0 : Int) ≤ x2 ∧ x2 ≤ (255 : Int)) ∧ x4 * x3 < Go.Sx.M256 ∧ (∀ (y : Int × Int × Int × Int × Int × Int × Nat), Go.Sx.closedB (Go.Sx.slotsAt (80 : Nat) [((2 : Nat), Go.Sx.SV.one (Go.Sx.SA.sc (Go.Sx.SC.ptr (1 : Nat) (0 : Nat)))), ((5 : Nat), Go.Sx.SV.one (Go.Sx.sI Go.IntKind.i64 y.fst)), ((6 : Nat), Go.Sx.SV.one (Go.Sx.sI Go.IntKind.i64 y.snd.fst)), ((7 : Nat), Go.Sx.SV.one (Go.Sx.sI Go.IntKind.i64 y.snd.snd.fst)), ((8 : Nat), Go.Sx.SV.one (Go.Sx.sI Go.IntKind.i64 y.snd.snd.snd.fst)), ((9 : Nat), Go.Sx.SV.one (Go.Sx.sI Go.IntKind.i64 y.snd.snd.snd.snd.fst)), ((10 : Nat), Go.Sx.SV.one (Go.Sx.sI Go.IntKind.i64 y.snd.snd.snd.snd.snd.fst))]) [Go.Sx.SO.cells (86 : Go.TypeId) [Go.Sx.SK.u p, Go.Sx.SK.u q] (0 : Nat), Go.Sx.SO.cells (88 : Go.TypeId) zeroT (0 : Nat)] = Bool.true) ∧ ∃ (y : Int × Int × Int × Int × Int × Int × Nat), (Go.Sx.fs y.snd.snd.snd.snd.snd.snd y.fst y.snd.fst y.snd.snd.fst y.snd.snd.snd.fst y.snd.snd.snd.snd.fst y.snd.snd.snd.snd.snd.fst = foR p q ∧ (y.snd.fst + y.snd.snd.snd.snd.fst).toNat < y.snd.snd.snd.snd.snd.snd ∧ ∃ (N : Int), ∃ (B : Int), ∃ (e0 : Int), ∃ (e1 : Int), Go.Sx.FsC x1 x4 N B (↑(highN p (foN p)) : Int) (↑(highN q (foN p)) : Int) e0 e1 (4611686018427387904 : Int) ∧ Go.Sx.FsK x1 x4 N B (↑(highN p (foN p)) : Int) (↑(highN q (foN p)) : Int) e0 e1 (4611686018427387904 : Int) y.fst y.snd.fst y.snd.snd.fst y.snd.snd.snd.fst y.snd.snd.snd.snd.fst y.snd.snd.snd.snd.snd.fst) ∧ (↑(highN p x2) : Int) = y.fst ∧ (↑(highN q x2) : Int) = y.snd.fst ∧ (1 : Int) = y.snd.snd.fst ∧ (0 : Int) = y.snd.snd.snd.fst ∧ (0 : Int) = y.snd.snd.snd.snd.fst ∧ (1 : Int) = y.snd.snd.snd.snd.snd.fst ∧ x1 = x1 ∧ x4 = x4 ∧ (0 : Nat) = (0 : Nat) ∧ (0 : Nat) = (0 : Nat) ∧ ∀ (y : Int × Int × Int × Int × Int × Int × Nat), (Go.Sx.fs y.snd.snd.snd.snd.snd.snd y.fst y.snd.fst y.snd.snd.fst y.snd.snd.snd.fst y.snd.snd.snd.snd.fst y.snd.snd.snd.snd.snd.fst = foR p q ∧ (y.snd.fst + y.snd.snd.snd.snd.fst).toNat < y.snd.snd.snd.snd.snd.snd ∧ ∃ (N : Int), ∃ (B : Int), ∃ (e0 : Int), ∃ (e1 : Int), Go.Sx.FsC x1 x4 N B (↑(highN p (foN p)) : Int) (↑(highN q (foN p)) : Int) e0 e1 (4611686018427387904 : Int) ∧ Go.Sx.FsK x1 x4 N B (↑(highN p (foN p)) : Int) (↑(highN q (foN p)) : Int) e0 e1 (4611686018427387904 : Int) y.fst y.snd.fst y.snd.snd.fst y.snd.snd.snd.fst y.snd.snd.snd.snd.fst y.snd.snd.snd.snd.snd.fst) → ((Go.IntKind.i64.wrap (y.snd.fst + y.snd.snd.snd.snd.fst) != (0 : Int)) = Bool.true → (Go.IntKind.i64.wrap (y.snd.fst + y.snd.snd.snd.snd.fst) != (0 : Int)) = Bool.true) ∧ ((Go.IntKind.i64.wrap (y.snd.fst + y.snd.snd.snd.snd.fst) != (0 : Int)) = Bool.true → (Go.IntKind.i64.wrap (y.snd.fst + y.snd.snd.snd.snd.fst) != (0 : Int)) = Bool.true) ∧ ((Go.IntKind.i64.wrap (y.snd.fst + y.snd.snd.snd.snd.fst) != (0 : Int)) = Bool.true → (Go.IntKind.i64.wrap (y.snd.fst + y.snd.snd.snd.snd.fst) != (0 : Int)) = Bool.true) ∧ ((Go.IntKind.i64.wrap (y.snd.fst + y.snd.snd.snd.snd.fst) != (0 : Int)) = Bool.true → (Go.IntKind.i64.wrap (y.snd.fst + y.snd.snd.snd.snd.fst) != (0 : Int)) = Bool.true) ∧ ((Go.IntKind.i64.wrap (y.snd.fst + y.snd.snd.snd.snd.fst) != (0 : Int) && Go.IntKind.i64.wrap (y.snd.fst + y.snd.snd.snd.snd.snd.fst) != (0 : Int)) = Bool.true → Go.IntKind.i64.wrap (y.snd.fst + y.snd.snd.snd.snd.fst) ≠ (0 : Int) ∧ Go.IntKind.i64.wrap (y.snd.fst + y.snd.snd.snd.snd.snd.fst) ≠ (0 : Int) ∧ ((Go.IntKind.i64.wrap ((Go.IntKind.i64.wrap (y.fst + y.snd.snd.fst)).tdiv (Go.IntKind.i64.wrap (y.snd.fst + y.snd.snd.snd.snd.fst))) != Go.IntKind.i64.wrap ((Go.IntKind.i64.wrap (y.fst + y.snd.snd.snd.fst)).tdiv (Go.IntKind.i64.wrap (y.snd.fst + y.snd.snd.snd.snd.snd.fst)))) = Bool.true → ((-9223372036854775808 : Int) ≤ y.snd.snd.fst ∧ y.snd.snd.fst ≤ (9223372036854775807 : Int)) ∧ ((-9223372036854775808 : Int) ≤ y.snd.snd.snd.fst ∧ y.snd.snd.snd.fst ≤ (9223372036854775807 : Int)) ∧ ((-9223372036854775808 : Int) ≤ y.snd.snd.snd.snd.fst ∧ y.snd.snd.snd.snd.fst ≤ (9223372036854775807 : Int)) ∧ ((-9223372036854775808 : Int) ≤ y.snd.snd.snd.snd.snd.fst ∧ y.snd.snd.snd.snd.snd.fst ≤ (9223372036854775807 : Int)) ∧ (wrN y.snd.snd.fst % Go.Sx.M256 = x5 ∧ wrN y.snd.snd.snd.fst % Go.Sx.M256 = x7 ∧ wrN y.snd.snd.snd.snd.fst % Go.Sx.M256 = x8 ∧ wrN y.snd.snd.snd.snd.snd.fst % Go.Sx.M256 = x9 ∧ True) ∧ (y.snd.snd.snd.fst != (0 : Int)) = x10) ∧ ((Go.IntKind.i64.wrap ((Go.IntKind.i64.wrap (y.fst + y.snd.snd.fst)).tdiv (Go.IntKind.i64.wrap (y.snd.fst + y.snd.snd.snd.snd.fst))) != Go.IntKind.i64.wrap ((Go.IntKind.i64.wrap (y.fst + y.snd.snd.snd.fst)).tdiv (Go.IntKind.i64.wrap (y.snd.fst + y.snd.snd.snd.snd.snd.fst)))) = Bool.false → ∃ (y' : Int × Int × Int × Int × Int × Int × Nat), (Go.Sx.fs y'.snd.snd.snd.snd.snd.snd y'.fst y'.snd.fst y'.snd.snd.fst y'.snd.snd.snd.fst y'.snd.snd.snd.snd.fst y'.snd.snd.snd.snd.snd.fst = foR p q ∧ (y'.snd.fst + y'.snd.snd.snd.snd.fst).toNat < y'.snd.snd.snd.snd.snd.snd ∧ ∃ (N : Int), ∃ (B : Int), ∃ (e0 : Int), ∃ (e1 : Int), Go.Sx.FsC x1 x4 N B (↑(highN p (foN p)) : Int) (↑(highN q (foN p)) : Int) e0 e1 (4611686018427387904 : Int) ∧ Go.Sx.FsK x1 x4 N B (↑(highN p (foN p)) : Int) (↑(highN q (foN p)) : Int) e0 e1 (4611686018427387904 : Int) y'.fst y'.snd.fst y'.snd.snd.fst y'.snd.snd.snd.fst y'.snd.snd.snd.snd.fst y'.snd.snd.snd.snd.snd.fst) ∧ y.snd.fst = y'.fst ∧ Go.IntKind.i64.wrap (y.fst - Go.IntKind.i64.wrap (Go.IntKind.i64.wrap ((Go.IntKind.i64.wrap (y.fst + y.snd.snd.fst)).tdiv (Go.IntKind.i64.wrap (y.snd.fst + y.snd.snd.snd.snd.fst))) * y.snd.fst)) = y'.snd.fst ∧ y.snd.snd.snd.snd.fst = y'.snd.snd.fst ∧ y.snd.snd.snd.snd.snd.fst = y'.snd.snd.snd.fst ∧ Go.IntKind.i64.wrap (y.snd.snd.fst - Go.IntKind.i64.wrap (Go.IntKind.i64.wrap ((Go.IntKind.i64.wrap (y.fst + y.snd.snd.fst)).tdiv (Go.IntKind.i64.wrap (y.snd.fst + y.snd.snd.snd.snd.fst))) * y.snd.snd.snd.snd.fst)) = y'.snd.snd.snd.snd.fst ∧ Go.IntKind.i64.wrap (y.snd.snd.snd.fst - Go.IntKind.i64.wrap (Go.IntKind.i64.wrap ((Go.IntKind.i64.wrap (y.fst + y.snd.snd.fst)).tdiv (Go.IntKind.i64.wrap (y.snd.fst + y.snd.snd.snd.snd.fst))) * y.snd.snd.snd.snd.snd.fst)) = y'.snd.snd.snd.snd.snd.fst ∧ x1 = x1 ∧ x4 = x4 ∧ (0 : Nat) = (0 : Nat) ∧ (0 : Nat) = (0 : Nat) ∧ y'.snd.snd.snd.snd.snd.snd < y.snd.snd.snd.snd.snd.snd)) ∧ ((Go.IntKind.i64.wrap (y.snd.fst + y.snd.snd.snd.snd.fst) != (0 : Int) && Go.IntKind.i64.wrap (y.snd.fst + y.snd.snd.snd.snd.snd.fst) != (0 : Int)) = Bool.false → ((-9223372036854775808 : Int) ≤ y.snd.snd.fst ∧ y.snd.snd.fst ≤ (9223372036854775807 : Int)) ∧ ((-9223372036854775808 : Int) ≤ y.snd.snd.snd.fst ∧ y.snd.snd.snd.fst ≤ (9223372036854775807 : Int)) ∧ ((-9223372036854775808 : Int) ≤ y.snd.snd.snd.snd.fst ∧ y.snd.snd.snd.snd.fst ≤ (9223372036854775807 : Int)) ∧ ((-9223372036854775808 : Int) ≤ y.snd.snd.snd.snd.snd.fst ∧ y.snd.snd.snd.snd.snd.fst ≤ (9223372036854775807 : Int)) ∧ (wrN y.snd.snd.fst % Go.Sx.M256 = x5 ∧ wrN y.snd.snd.snd.fst % Go.Sx.M256 = x7 ∧ wrN y.snd.snd.snd.snd.fst % Go.Sx.M256 = x8 ∧ wrN y.snd.snd.snd.snd.snd.fst % Go.Sx.M256 = x9 ∧ True) ∧ (y.snd.snd.snd.fst != (0 : Int)) = x10)) := by kernel_rfl
-- END VC
-- VC vc_of HASH d3233c265dbc61d8
theorem vc_of (a b c d p q : Nat) :
    Owes Try.prog cxTurn [] 100 Try.f88 [.agg [.u a, .u b, .u c, .u d], .agg [.u p, .u q]] (turnG [[.u a, .u b, .u c, .u d], [.u p, .u q]]) =
    (let x1 : Nat := (a * p + b * q) % Go.Sx.M256; let x2 : Nat := (c * p + d * q) % Go.Sx.M256; x1 = x1 ∧ x2 = x2 ∧ True) := by kernel_rfl
-- END VC
-- VC vc_above HASH 1eb1242aee8dd8e7
theorem vc_above (a m : Nat) :
    Owes Try.prog cxAbove [] 100 Try.f89 [sU a, sU m] (aboveG a m) =
    (let x1 : Nat := a + m; let x2 : Nat := a % Go.Sx.M256; let x3 : Nat := (if (57896044618658097711785492504343953926634992332820282019728792003956564819968 : Nat) ≤ x2 then x1 else a) % Go.Sx.M256; (((Go.Sx.limb a (3 : Nat)).fdiv (9223372036854775808 : Int) == (1 : Int)) = Bool.true → x1 % Go.Sx.M256 = x3 ∧ True) ∧ (((Go.Sx.limb a (3 : Nat)).fdiv (9223372036854775808 : Int) == (1 : Int)) = Bool.false → x2 = x3 ∧ True)) := by kernel_rfl
-- END VC
-- VC vc_inverse HASH 825a42b1a85797b6
theorem vc_inverse (a m : Nat) :
    Owes Try.prog cxInverse [(2, .inv (invInv a m))] 100 Try.f66 [sU a, sU m] (inverseG a m) =
    (let x1 : Nat := m % Go.Sx.M256; let x2 : Nat := a % Go.Sx.M256; let x3 : Nat := invN x2 x1 % Go.Sx.M256; let x4 : Int := invE x2 x1; (∀ (y : Nat × Nat × Int × Int), Go.Sx.closedB (Go.Sx.slotsAt (44 : Nat) [((2 : Nat), Go.Sx.SV.one (Go.Sx.SA.sc (Go.Sx.SC.ptr (0 : Nat) (0 : Nat)))), ((3 : Nat), Go.Sx.SV.one (Go.Sx.SA.sc (Go.Sx.SC.ptr (1 : Nat) (0 : Nat)))), ((4 : Nat), Go.Sx.SV.one (Go.Sx.SA.sc (Go.Sx.SC.ptr (2 : Nat) (0 : Nat)))), ((6 : Nat), Go.Sx.SV.one (Go.Sx.SA.sc (Go.Sx.SC.ptr (3 : Nat) (0 : Nat)))), ((7 : Nat), Go.Sx.SV.one (Go.Sx.SA.sc (Go.Sx.SC.ptr (4 : Nat) (0 : Nat))))]) [Go.Sx.SO.cells (24 : Go.TypeId) [Go.Sx.SK.u a] (0 : Nat), Go.Sx.SO.cells (24 : Go.TypeId) [Go.Sx.SK.u m] (0 : Nat), Go.Sx.SO.cells (24 : Go.TypeId) zeroU (0 : Nat), Go.Sx.SO.cells (86 : Go.TypeId) [Go.Sx.SK.u y.fst, Go.Sx.SK.u y.snd.fst] (0 : Nat), Go.Sx.SO.cells (86 : Go.TypeId) [Go.Sx.SK.u (wrN y.snd.snd.fst), Go.Sx.SK.u (wrN y.snd.snd.snd)] (0 : Nat)] = Bool.true) ∧ ∃ (y : Nat × Nat × Int × Int), (Go.Sx.EuK x1 x2 y.fst y.snd.fst y.snd.snd.fst y.snd.snd.snd ∧ Go.Sx.euE y.fst y.snd.fst y.snd.snd.fst y.snd.snd.snd = Go.Sx.euE x1 x2 (0 : Int) (1 : Int) ∧ y.fst ≤ x1) ∧ x2 = x2 ∧ (0 : Nat) = (0 : Nat) ∧ x1 = x1 ∧ (0 : Nat) = (0 : Nat) ∧ (0 : Nat) = (0 : Nat) ∧ x1 = y.fst % Go.Sx.M256 ∧ x2 = y.snd.fst % Go.Sx.M256 ∧ (0 : Nat) = (0 : Nat) ∧ ((0 : Nat) = wrN y.snd.snd.fst % Go.Sx.M256 ∧ (1 : Nat) = wrN y.snd.snd.snd % Go.Sx.M256 ∧ True) ∧ (0 : Nat) = (0 : Nat) ∧ ∀ (y : Nat × Nat × Int × Int), Go.Sx.EuK x1 x2 y.fst y.snd.fst y.snd.snd.fst y.snd.snd.snd ∧ Go.Sx.euE y.fst y.snd.fst y.snd.snd.fst y.snd.snd.snd = Go.Sx.euE x1 x2 (0 : Int) (1 : Int) ∧ y.fst ≤ x1 → ((!Go.Sx.conj [y.snd.fst % Go.Sx.M256 == (0 : Nat)]) = Bool.true → y.snd.fst % Go.Sx.M256 < y.fst % Go.Sx.M256 ∧ ((!!(foR y.fst y.snd.fst).snd.fst == (0 : Int)) = Bool.true → ∃ (y' : Nat × Nat × Int × Int), (Go.Sx.EuK x1 x2 y'.fst y'.snd.fst y'.snd.snd.fst y'.snd.snd.snd ∧ Go.Sx.euE y'.fst y'.snd.fst y'.snd.snd.fst y'.snd.snd.snd = Go.Sx.euE x1 x2 (0 : Int) (1 : Int) ∧ y'.fst ≤ x1) ∧ x2 = x2 ∧ (0 : Nat) = (0 : Nat) ∧ x1 = x1 ∧ (0 : Nat) = (0 : Nat) ∧ (0 : Nat) = (0 : Nat) ∧ ((0 : Nat) * y.fst + (1 : Nat) * y.snd.fst) % Go.Sx.M256 = y'.fst % Go.Sx.M256 ∧ ((1 : Nat) * y.fst + ((115792089237316195423570985008687907853269984665640564039457584007913129639936 : Nat) - (if y.snd.fst % Go.Sx.M256 = (0 : Nat) then (0 : Nat) else y.fst % Go.Sx.M256 / (y.snd.fst % Go.Sx.M256)) % Go.Sx.M256) * y.snd.fst) % Go.Sx.M256 = y'.snd.fst % Go.Sx.M256 ∧ (0 : Nat) = (0 : Nat) ∧ ((0 : Nat) * wrN y.snd.snd.fst + (1 : Nat) * wrN y.snd.snd.snd) % Go.Sx.M256 = wrN y'.snd.snd.fst % Go.Sx.M256 ∧ ((1 : Nat) * wrN y.snd.snd.fst + ((115792089237316195423570985008687907853269984665640564039457584007913129639936 : Nat) - (if y.snd.fst % Go.Sx.M256 = (0 : Nat) then (0 : Nat) else y.fst % Go.Sx.M256 / (y.snd.fst % Go.Sx.M256)) % Go.Sx.M256) * wrN y.snd.snd.snd) % Go.Sx.M256 = wrN y'.snd.snd.snd % Go.Sx.M256 ∧ (0 : Nat) = (0 : Nat) ∧ y'.snd.fst < y.snd.fst) ∧ ((!!(foR y.fst y.snd.fst).snd.fst == (0 : Int)) = Bool.false → ∃ (y' : Nat × Nat × Int × Int), (Go.Sx.EuK x1 x2 y'.fst y'.snd.fst y'.snd.snd.fst y'.snd.snd.snd ∧ Go.Sx.euE y'.fst y'.snd.fst y'.snd.snd.fst y'.snd.snd.snd = Go.Sx.euE x1 x2 (0 : Int) (1 : Int) ∧ y'.fst ≤ x1) ∧ x2 = x2 ∧ (0 : Nat) = (0 : Nat) ∧ x1 = x1 ∧ (0 : Nat) = (0 : Nat) ∧ (0 : Nat) = (0 : Nat) ∧ (wrN (foR y.fst y.snd.fst).fst * y.fst + wrN (foR y.fst y.snd.fst).snd.fst * y.snd.fst) % Go.Sx.M256 = y'.fst % Go.Sx.M256 ∧ (wrN (foR y.fst y.snd.fst).snd.snd.fst * y.fst + wrN (foR y.fst y.snd.fst).snd.snd.snd * y.snd.fst) % Go.Sx.M256 = y'.snd.fst % Go.Sx.M256 ∧ (0 : Nat) = (0 : Nat) ∧ (wrN (foR y.fst y.snd.fst).fst * wrN y.snd.snd.fst + wrN (foR y.fst y.snd.fst).snd.fst * wrN y.snd.snd.snd) % Go.Sx.M256 = wrN y'.snd.snd.fst % Go.Sx.M256 ∧ (wrN (foR y.fst y.snd.fst).snd.snd.fst * wrN y.snd.snd.fst + wrN (foR y.fst y.snd.fst).snd.snd.snd * wrN y.snd.snd.snd) % Go.Sx.M256 = wrN y'.snd.snd.snd % Go.Sx.M256 ∧ (0 : Nat) = (0 : Nat) ∧ y'.snd.fst < y.snd.fst)) ∧ ((!Go.Sx.conj [y.snd.fst % Go.Sx.M256 == (0 : Nat)]) = Bool.false → ((!Go.Sx.conj [y.fst % Go.Sx.M256 == (1 : Nat)]) = Bool.true → ((0 : Nat) = x3 ∧ True) ∧ (5 : Int) = x4) ∧ ((!Go.Sx.conj [y.fst % Go.Sx.M256 == (1 : Nat)]) = Bool.false → ((if (57896044618658097711785492504343953926634992332820282019728792003956564819968 : Nat) ≤ wrN y.snd.snd.fst % Go.Sx.M256 then wrN y.snd.snd.fst + m else wrN y.snd.snd.fst) % Go.Sx.M256 = x3 ∧ True) ∧ (0 : Int) = x4))) := by kernel_rfl
-- END VC
-- VC vc_fInv HASH 8224b387e4246db1
theorem vc_fInv (a m : Nat) :
    Owes Try.prog cxInv [] 100 Try.f35 [sU a, sU m] (finvG a m) =
    (let x1 : Nat := m % Go.Sx.M256; let x2 : Nat := a % Go.Sx.M256; let x3 : Nat := invN x2 x1; let x4 : Nat := (if finvE a m = (0 : Int) then x3 else (0 : Nat)) % Go.Sx.M256; (Go.Sx.conj [x1 == (0 : Nat)] = Bool.true → ((0 : Nat) = x4 ∧ True) ∧ (7 : Int) = finvE a m) ∧ (Go.Sx.conj [x1 == (0 : Nat)] = Bool.false → (Decidable.decide (Go.Sx.cmpN a m ≥ (0 : Int)) = Bool.true → ((0 : Nat) = x4 ∧ True) ∧ (6 : Int) = finvE a m) ∧ (Decidable.decide (Go.Sx.cmpN a m ≥ (0 : Int)) = Bool.false → x2 < x1 ∧ (x3 % Go.Sx.M256 = x4 ∧ True) ∧ invE x2 x1 = finvE a m))) := by kernel_rfl
-- END VC

end Go.Proofs.Ytbjdchpncbgpnaa
end

section
/-
  Package field: powers.
-/
namespace Go.Proofs.Ytbjdchpncbgpnaa
open Go.Sx

end Go.Proofs.Ytbjdchpncbgpnaa
end

section
/-
  Package field: inverses: a number with a sign, the highest bits, turns.
-/
namespace Go.Proofs.Ytbjdchpncbgpnaa
open Go.Sx

theorem wrN_nonneg {z : Int} (h0 : 0 ≤ z) (h : z < 2 ^ 256) : wrN z = z.toNat := by
  unfold wrN
  rw [Int.emod_eq_of_lt h0 (by rw [M256_eq]; exact h)]
theorem wrN_neg {z : Int} (h0 : z < 0) (h : -(2 ^ 256) ≤ z) : wrN z = (z + 2 ^ 256).toNat := by
  unfold wrN
  have e : z % (M256 : Int) = z + 2 ^ 256 := by
    rw [M256_eq, ← Int.add_emod_right]
    exact Int.emod_eq_of_lt (by omega) (by omega)
  rw [e]
theorem wrN_lt (z : Int) : wrN z < M256 := by
  unfold wrN
  have h1 := Int.emod_nonneg z (show (M256 : Int) ≠ 0 by rw [M256_eq]; decide)
  have h2 := Int.emod_lt_of_pos z (show 0 < (M256 : Int) by rw [M256_eq]; decide)
  omega
theorem wrN_cast (z : Int) : ((wrN z : Nat) : Int) = z % (M256 : Int) := by
  unfold wrN
  exact Int.toNat_of_nonneg (Int.emod_nonneg z (by rw [M256_eq]; decide))
theorem ok_signed : ∀ z : Int, Ok (signedC z) → Owes Try.prog Cx.none [] 100 Try.f94 [sI .i64 z] (signedG z) := by
  intro z hc
  obtain ⟨hz, _⟩ := hc
  rw [vc_signed]
  have hz' : -9223372036854775808 ≤ z ∧ z ≤ 9223372036854775807 := hz
  intro x1
  have E : x1 = if z < 0 then 18446744073709551615 else 0 := by
    simp only [x1]
    rw [wrap_mod, Int.fdiv_eq_ediv_of_nonneg _ (by decide)]
    split <;> omega
  have W : IntKind.u64.wrap z = if z < 0 then z + 18446744073709551616 else z := by
    rw [wrap_mod]
    split <;> omega
  clear_value x1
  rw [W, E]
  by_cases h : z < 0
  · simp only [if_pos h]
    refine ⟨by omega, by omega, by omega, by omega, congrArg (· % M256) ?_, trivial⟩
    rw [wrN_neg h (by omega)]
    unfold join
    omega
  · simp only [if_neg h]
    refine ⟨by omega, by omega, by omega, by omega, congrArg (· % M256) ?_, trivial⟩
    rw [wrN_nonneg (by omega) (by omega)]
    unfold join
    omega
theorem card_signed : FnOK Try.prog 94 (specI signedC signedG) :=
  FnOK_I CxOK_nil (iv := fun _ => []) (N := 100) Try.func94 (by kernel_rfl) (by kernel_rfl) (fun _ => bnd_one (bnd_U _)) ok_signed

theorem limb_mod (a i : Nat) (hi : i ≤ 3) : a / 2 ^ (64 * i) % 2 ^ 64 = a % M256 / 2 ^ (64 * i) % 2 ^ 64 := by
  have e : M256 = 2 ^ (64 * i) * 2 ^ (256 - 64 * i) := by rw [← Nat.pow_add, M_pow, show 64 * i + (256 - 64 * i) = 256 by omega]
  rw [e, Nat.mod_mul_right_div_self, Nat.mod_mod_of_dvd _ (Nat.pow_dvd_pow 2 (by omega))]
theorem high_word {A k t p : Nat} (ht : t ≤ 63) (hp : p + k = 2) (hA : A * 2 ^ (64 * p + t) < 2 ^ 256) :
    (A / 2 ^ (64 * (k + 1)) % 2 ^ 64 % 2 ^ (64 - t) * 2 ^ t + A / 2 ^ (64 * k) % 2 ^ 64 / 2 ^ (64 - t)) / 4 = A * 2 ^ (64 * p + t) / 2 ^ 194 := by
  have hW : 2 ^ t * 2 ^ (64 - t) = 2 ^ 64 := W_two t (by omega)
  have e1 : A / 2 ^ (64 * (k + 1)) = A / 2 ^ (64 * k) / 2 ^ 64 := by rw [Nat.mul_add, Nat.pow_add, ← Nat.div_div_eq_div_mul]
  have hlt : A / 2 ^ (64 * (k + 1)) < 2 ^ (64 - t) := by
    refine Nat.div_lt_of_lt_mul ?_
    refine Nat.lt_of_mul_lt_mul_right (a := 2 ^ (64 * p + t)) ?_
    rw [← Nat.pow_add, ← Nat.pow_add, show 64 * (k + 1) + (64 - t) + (64 * p + t) = 256 by omega]
    exact hA
  have hE : 2 ^ (64 - t) ≤ 2 ^ 64 := Nat.pow_le_pow_right (by decide) (by omega)
  rw [Nat.mod_eq_of_lt (Nat.lt_of_lt_of_le hlt hE), Nat.mod_eq_of_lt hlt, e1]
  have hs : A / 2 ^ (64 * k) / 2 ^ 64 * 2 ^ t + A / 2 ^ (64 * k) % 2 ^ 64 / 2 ^ (64 - t) = A / 2 ^ (64 * k) / 2 ^ (64 - t) := by
    generalize A / 2 ^ (64 * k) = B
    conv => rhs; rw [← Nat.div_add_mod B (2 ^ 64), ← hW, Nat.mul_comm (2 ^ t), Nat.mul_assoc, Nat.mul_add_div (Nat.two_pow_pos _)]
    rw [Nat.mul_comm (2 ^ (64 - t)) (2 ^ t), hW, Nat.mul_comm]
  rw [hs, Nat.div_div_eq_div_mul, Nat.div_div_eq_div_mul]
  have e2 : (2 : Nat) ^ 194 = 2 ^ (64 * k) * 2 ^ (64 - t) * 4 * 2 ^ (64 * p + t) := by
    rw [show (4 : Nat) = 2 ^ 2 from rfl, ← Nat.pow_add, ← Nat.pow_add, ← Nat.pow_add, show 64 * k + (64 - t) + 2 + (64 * p + t) = 194 by omega]
  rw [e2, Nat.mul_div_mul_right _ _ (Nat.two_pow_pos _), Nat.mul_assoc]
theorem high_low {A t : Nat} (ht : t ≤ 63) (hA : A * 2 ^ (64 * 3 + t) < 2 ^ 256) : A / 2 ^ (64 * 0) % 2 ^ 64 % 2 ^ (64 - t) * 2 ^ t / 4 = A * 2 ^ (64 * 3 + t) / 2 ^ 194 := by
  have hlt : A < 2 ^ (64 - t) := by
    refine Nat.lt_of_mul_lt_mul_right (a := 2 ^ (64 * 3 + t)) ?_
    rw [← Nat.pow_add, show 64 - t + (64 * 3 + t) = 256 by omega]
    exact hA
  have hE : 2 ^ (64 - t) ≤ 2 ^ 64 := Nat.pow_le_pow_right (by decide) (by omega)
  rw [Nat.mul_zero, Nat.pow_zero, Nat.div_one, Nat.mod_eq_of_lt (Nat.lt_of_lt_of_le hlt hE), Nat.mod_eq_of_lt hlt, Nat.pow_add, Nat.mul_comm (2 ^ (64 * 3)), ← Nat.mul_assoc]
  rw [show (2 : Nat) ^ 194 = 4 * 2 ^ (64 * 3) from by decide, Nat.mul_div_mul_right _ _ (Nat.two_pow_pos _)]
theorem ok_highest : ∀ (a : Nat) (n : Int), Ok (highC a n) → Owes Try.prog Cx.none [] 100 Try.f93 [sU a, sI .i64 n] (highG a n) := by
  intro a n hc
  obtain ⟨hn, hlt, _⟩ := hc
  rw [vc_highest]
  obtain ⟨p, t, hnp, ht, hp, y1, y2, y3, _⟩ := n_parts (n := n) (by omega)
  have hp3 : p ≤ 3 := by omega
  have hn2 : n.toNat = 64 * p + t := by omega
  have hlt' : a % M256 * 2 ^ (64 * p + t) < 2 ^ 256 := by rw [← hn2]; exact hlt
  have hN : highN a n = a % M256 * 2 ^ (64 * p + t) / 2 ^ 194 := by unfold highN; rw [hn2]
  have hNlt : highN a n < 4611686018427387904 := by
    rw [hN]
    exact Nat.div_lt_of_lt_mul hlt'
  have hW := W_two t (by omega)
  intro x1 x2 x3 x4
  have E1 : x1 = ((3 - p : Nat) : Int) := by simp only [x1]; rw [y1, IntWalk.i64_in _ (by omega)]; omega
  have E3 : x3 = ((64 - t : Nat) : Int) := y3
  obtain ⟨c, hc, bc⟩ := limb_is a (3 - p)
  have hc' : c = a % M256 / 2 ^ (64 * (3 - p)) % 2 ^ 64 := by
    have : limb a (3 - p) = ((a / 2 ^ (64 * (3 - p)) % 2 ^ 64 : Nat) : Int) := rfl
    rw [hc, limb_mod a (3 - p) (by omega)] at this
    exact_mod_cast this
  have E4 : x4 = IntKind.u64.wrap ((c : Int) * ((2 ^ t : Nat) : Int)) := by simp only [x4]; rw [E1, Int.toNat_natCast, hc, y2, two_min t (by omega)]
  have E2 : x2 = ((3 - p : Nat) : Int) - 1 := by simp only [x2]; rw [E1, IntWalk.i64_in _ (by omega)]
  clear_value x4 x3 x2 x1
  rw [E1, E2, E3, E4, y2]
  refine ⟨by omega, by omega, nn _, fun h => ⟨?_, ?_, nn _, ?_⟩, fun h => ?_⟩
  · have := of_decide_eq_true h; omega
  · have := of_decide_eq_true h; omega
  · have h := of_decide_eq_true h
    obtain ⟨k, hk⟩ : ∃ k, 3 - p = k + 1 := ⟨2 - p, by omega⟩
    have hk2 : p + k = 2 := by omega
    rw [hk] at hc' ⊢
    rw [show ((k + 1 : Nat) : Int) - 1 = ((k : Nat) : Int) by omega, Int.toNat_natCast]
    obtain ⟨d, hd, bd⟩ := limb_is a k
    have hd' : d = a % M256 / 2 ^ (64 * k) % 2 ^ 64 := by
      have : limb a k = ((a / 2 ^ (64 * k) % 2 ^ 64 : Nat) : Int) := rfl
      rw [hd, limb_mod a k (by omega)] at this
      exact_mod_cast this
    rw [hd, two_min (64 - t) (by omega)]
    obtain ⟨o1, _⟩ := or_up c d t (by omega) bd
    rw [o1, hc', hd']
    have e4 : ∀ n : Nat, (n : Int).fdiv 4 = ((n / 4 : Nat) : Int) := fun n => fdiv_nat n 4
    rw [e4, high_word ht hk2 hlt', ← hN, IntWalk.i64_in _ (by omega)]
  · have h := of_decide_eq_false h
    have hp' : p = 3 := by omega
    subst hp'
    have e4 : ∀ n : Nat, (n : Int).fdiv 4 = ((n / 4 : Nat) : Int) := fun n => fdiv_nat n 4
    rw [wrap_up c _ _ hW, e4, hc', show 3 - 3 = 0 from rfl, high_low ht hlt', ← hN, IntWalk.i64_in _ (by omega)]
theorem card_highest : FnOK Try.prog 93 (specUJ highC highG) :=
  FnOK_UJ CxOK_nil (iv := fun _ _ => []) (N := 100) Try.func93 (by kernel_rfl) (by kernel_rfl) (fun _ _ => bnd_one (bnd_I _ _)) ok_highest

theorem ok_of : ∀ (ls : List (List At)) (vs : List (Option Addr)), Ok (turnC ls) → Owes Try.prog cxTurn [] 100 Try.f88 (mkArgs [.str [.u, .u, .u, .u], .str [.u, .u]] ls vs) (turnG ls) := by
  intro ls vs hc
  unfold turnC at hc
  split at hc
  · rename_i a b c d p q
    have h : Owes Try.prog cxTurn [] 100 Try.f88 [.agg [.u a, .u b, .u c, .u d], .agg [.u p, .u q]] (turnG [[.u a, .u b, .u c, .u d], [.u p, .u q]]) := by
      rw [vc_of]
      exact ⟨rfl, rfl, trivial⟩
    exact h
  · exact hc.1.elim
theorem bnd_agg {ks : List SK} (h : ∀ k ∈ ks, ∃ n, k = .u n) : SA.bnd none0 (.agg ks) := by
  intro k hk
  obtain ⟨n, rfl⟩ := h k hk
  trivial
theorem card_of : FnOK Try.prog 88 (specA [.str [.u, .u, .u, .u], .str [.u, .u]] turnC turnG) :=
  FnOK_A (CxOK_cons card_Mul (CxOK_cons card_Add CxOK_nil)) (iv := fun _ => []) (N := 100) Try.func88 (by kernel_rfl) (by kernel_rfl) (fun ls => by
    unfold turnG
    split
    · exact bnd_one (bnd_agg (by intro k hk; simp only [List.mem_cons, List.not_mem_nil, or_false] at hk; rcases hk with rfl | rfl <;> exact ⟨_, rfl⟩))
    · intro z hz; simp at hz) ok_of
theorem top_bit (a : Nat) : (((limb a 3).fdiv (9223372036854775808 : Int) == (1 : Int)) = true → 57896044618658097711785492504343953926634992332820282019728792003956564819968 ≤ a % M256) ∧ (((limb a 3).fdiv (9223372036854775808 : Int) == (1 : Int)) = false → a % M256 < 57896044618658097711785492504343953926634992332820282019728792003956564819968) := by
  obtain ⟨c0, h0, b0⟩ := limb_is a 0
  obtain ⟨c1, h1, b1⟩ := limb_is a 1
  obtain ⟨c2, h2, b2⟩ := limb_is a 2
  obtain ⟨c3, h3, b3⟩ := limb_is a 3
  have hA := horner_is a c0 c1 c2 c3 h0 h1 h2 h3
  have e : (c3 : Int).fdiv 9223372036854775808 = ((c3 / 9223372036854775808 : Nat) : Int) := fdiv_nat c3 9223372036854775808
  rw [h3, e, hA]
  refine ⟨fun h => ?_, fun h => ?_⟩
  · have := beq_iff_eq.1 h
    omega
  · have := beq_eq_false_iff_ne.1 h
    omega
theorem ok_above : ∀ a m : Nat, Owes Try.prog cxAbove [] 100 Try.f89 [sU a, sU m] (aboveG a m) := by
  intro a m
  rw [vc_above]
  obtain ⟨t1, t2⟩ := top_bit a
  intro x1 x2 x3
  refine ⟨fun h => ⟨?_, trivial⟩, fun h => ⟨?_, trivial⟩⟩
  · simp only [x3]
    rw [if_pos (t1 h)]
  · simp only [x3]
    rw [if_neg (Nat.not_le_of_lt (t2 h))]
theorem card_above : FnOK Try.prog 89 (specUU aboveG) :=
  FnOK_UU (CxOK_cons card_Add CxOK_nil) (iv := []) (N := 100) Try.func89 (by kernel_rfl) (by kernel_rfl) (fun _ _ => bnd_one (bnd_U _)) ok_above
end Go.Proofs.Ytbjdchpncbgpnaa
end

section
/-
  Package field: inverses: several divisions foreseen.
-/
namespace Go.Proofs.Ytbjdchpncbgpnaa
open Go.Sx

/-- The highest bits of two numbers. -/
theorem fsC_of {p q : Nat} (h : q % M256 < p % M256) : 0 ≤ foN p ∧ foN p ≤ 255 ∧ p % M256 * 2 ^ (foN p).toNat < M256 ∧ q % M256 * 2 ^ (foN p).toNat < M256 ∧
    ∃ N B e0 e1 : Int, FsC (p % M256) (q % M256) N B (highN p (foN p) : Nat) (highN q (foN p) : Nat) e0 e1 4611686018427387904 := by
  have hM : p % M256 < M256 := Nat.mod_lt _ (by rw [M256_eq]; decide)
  unfold foN highN
  generalize p % M256 = P at *
  generalize q % M256 = Q at *
  have hb := bitsN_le (n := P) (k := 256) hM
  obtain ⟨b1, b2⟩ := bitsN_two P (by omega)
  have hb0 : 0 < bitsN P := by
    rcases Nat.eq_zero_or_pos (bitsN P) with e | e
    · rw [e] at b1; omega
    · exact e
  have hD : 2 ^ bitsN P * 2 ^ (256 - bitsN P) = M256 := by rw [← Nat.pow_add, M_pow, show bitsN P + (256 - bitsN P) = 256 by omega]
  have c1 : P * 2 ^ (256 - bitsN P) < M256 := by rw [← hD]; exact Nat.mul_lt_mul_of_pos_right b1 (Nat.two_pow_pos _)
  have c2 : Q * 2 ^ (256 - bitsN P) < M256 := Nat.lt_trans (Nat.mul_lt_mul_of_pos_right h (Nat.two_pow_pos _)) c1
  have c3 : M256 ≤ 2 * (P * 2 ^ (256 - bitsN P)) := by rw [← hD, ← Nat.mul_assoc]; exact Nat.mul_le_mul_right _ b2
  rw [Int.toNat_natCast]
  refine ⟨by omega, by omega, c1, c2, ((2 ^ (256 - bitsN P) : Nat) : Int), ((2 ^ 194 : Nat) : Int), ((P * 2 ^ (256 - bitsN P) % 2 ^ 194 : Nat) : Int), ((Q * 2 ^ (256 - bitsN P) % 2 ^ 194 : Nat) : Int), ?_⟩
  have hN : 0 < 2 ^ (256 - bitsN P) := Nat.two_pow_pos _
  rw [M256_eq] at c1 c2 c3
  have k : ∀ z : Nat, (z : Int) * ((2 ^ (256 - bitsN P) : Nat) : Int) = ((z * 2 ^ (256 - bitsN P) : Nat) : Int) := fun z => (Int.natCast_mul _ _).symm
  generalize 2 ^ (256 - bitsN P) = D at *
  refine ⟨by omega, ?_, ?_, ?_, ?_, ?_, ?_⟩
  · rw [k]
    have := Nat.div_add_mod (P * D) (2 ^ 194)
    generalize P * D = X at *
    omega
  · rw [k]
    have := Nat.div_add_mod (Q * D) (2 ^ 194)
    generalize Q * D = X at *
    omega
  · generalize P * D = X at *
    omega
  · generalize Q * D = X at *
    omega
  · generalize P * D = X at *
    omega
  · generalize Q * D = X at *
    omega
/-- What the steps foreseen come to. -/
theorem foR_goes {p q : Nat} (h : q % M256 < p % M256) : ∃ R0 R1 : Nat, Goes (p % M256) (q % M256) R0 R1 (foR p q).1 (foR p q).2.1 (foR p q).2.2.1 (foR p q).2.2.2 ∧ (R1 < q % M256 ∨ (foR p q).2.1 = 0) := by
  obtain ⟨_, _, _, _, N, B, e0, e1, C⟩ := fsC_of h
  obtain ⟨x, y, F⟩ := FsK.run C (highN q (foN p) + 1) _ _ _ _ _ _ (FsK.start C)
  obtain ⟨R0, R1, g, hg⟩ := F.g
  exact ⟨R0, R1, g, hg.imp id (fun h => h.2)⟩

theorem wrap_step (x z : Int) : IntKind.i64.wrap (x - IntKind.i64.wrap z) = IntKind.i64.wrap (x - z) := by
  rw [IntKind.wrap_i64, IntKind.wrap_i64, IntKind.wrap_i64]
  omega
theorem ent_range {a : Int} (h : a.natAbs ≤ Int.toNat 4611686018427387904) : -9223372036854775808 ≤ a ∧ a ≤ 9223372036854775807 := by
  have : Int.toNat 4611686018427387904 = 4611686018427387904 := rfl
  omega
theorem foC_pair (ls : List (List At)) (h : Ok (foC ls)) : ∃ p q, ls = [[.u p, .u q]] ∧ q % M256 < p % M256 := by
  unfold foC at h
  split at h
  · exact ⟨_, _, rfl, h.1⟩
  · exact h.1.elim
theorem ok_foresee : ∀ p q : Nat, q % M256 < p % M256 → Owes Try.prog cxFo [(4, .inv (invFo p q))] 100 Try.f86 [.agg [.u p, .u q]] (foG [[.u p, .u q]]) := by
  intro p q hpq
  rw [vc_foresee]
  obtain ⟨n0, n1, hP, hQ, C0⟩ := fsC_of hpq
  intro x1 x2 x3 x4 x5 x6 x7 x8 x9 x10
  refine ⟨⟨n0, n1⟩, hP, ⟨n0, n1⟩, hQ, fun y => rfl, ⟨((highN p (foN p) : Nat) : Int), ((highN q (foN p) : Nat) : Int), 1, 0, 0, 1, highN q (foN p) + 1⟩, ⟨rfl, ?_, ?_⟩, rfl, rfl, rfl, rfl, rfl, rfl, rfl, rfl, rfl, rfl, ?_⟩
  · show ((highN q (foN p) : Nat) + (0 : Int)).toNat < highN q (foN p) + 1
    omega
  · obtain ⟨N, B, e0, e1, C⟩ := C0
    exact ⟨N, B, e0, e1, C, FsK.start C⟩
  rintro ⟨x, y, a, b, c, d, n⟩ ⟨hfs, hlt, N, B, e0, e1, C, F⟩
  dsimp only at hfs hlt F ⊢
  have F' := F
  obtain ⟨_, _, _, p1, p2, p3, p4, sg, ba, bb, bc, bd⟩ := F'
  have ra := ent_range ba
  have rb := ent_range bb
  have rc := ent_range bc
  have rd := ent_range bd
  have w1 : IntKind.i64.wrap (y + c) = y + c := IntWalk.i64_in _ (by clear sg; omega)
  have w2 : IntKind.i64.wrap (y + d) = y + d := IntWalk.i64_in _ (by clear sg; omega)
  have w3 : IntKind.i64.wrap (x + a) = x + a := IntWalk.i64_in _ (by clear sg; omega)
  have w4 : IntKind.i64.wrap (x + b) = x + b := IntWalk.i64_in _ (by clear sg; omega)
  rw [w1, w2, w3, w4]
  have leave : foR p q = (a, b, c, d) → (-9223372036854775808 ≤ a ∧ a ≤ 9223372036854775807) ∧ (-9223372036854775808 ≤ b ∧ b ≤ 9223372036854775807) ∧ (-9223372036854775808 ≤ c ∧ c ≤ 9223372036854775807) ∧ (-9223372036854775808 ≤ d ∧ d ≤ 9223372036854775807) ∧
      (wrN a % M256 = x5 ∧ wrN b % M256 = x7 ∧ wrN c % M256 = x8 ∧ wrN d % M256 = x9 ∧ True) ∧ (b != (0 : Int)) = x10 := by
    intro e
    refine ⟨ra, rb, rc, rd, ⟨?_, ?_, ?_, ?_, trivial⟩, ?_⟩
    · simp only [x5, e]
    · simp only [x7, x6, e]
    · simp only [x8, e]
    · simp only [x9, e]
    · simp only [x10, x6, e]; rfl
  obtain ⟨k, rfl⟩ : ∃ k, n = k + 1 := ⟨n - 1, by omega⟩
  refine ⟨id, id, id, id, fun hc => ?_, fun hc => leave ?_⟩
  · rw [Bool.and_eq_true] at hc
    have hyc : y + c ≠ 0 := bne_iff_ne.1 hc.1
    have hyd : y + d ≠ 0 := bne_iff_ne.1 hc.2
    have t1 : (x + a).tdiv (y + c) = (x + a) / (y + c) := Int.tdiv_eq_ediv_of_nonneg (by clear sg; omega)
    have t2 : (x + b).tdiv (y + d) = (x + b) / (y + d) := Int.tdiv_eq_ediv_of_nonneg (by clear sg; omega)
    have r1 : 0 ≤ (x + a) / (y + c) := Int.ediv_nonneg (by clear sg; omega) p3.1
    have r2 : 0 ≤ (x + b) / (y + d) := Int.ediv_nonneg (by clear sg; omega) p4.1
    have r3 : (x + a) / (y + c) ≤ x + a := Int.ediv_le_self _ (by clear sg; omega)
    have r4 : (x + b) / (y + d) ≤ x + b := Int.ediv_le_self _ (by clear sg; omega)
    have w5 : IntKind.i64.wrap ((x + a) / (y + c)) = (x + a) / (y + c) := IntWalk.i64_in _ (by clear sg; omega)
    have w6 : IntKind.i64.wrap ((x + b) / (y + d)) = (x + b) / (y + d) := IntWalk.i64_in _ (by clear sg; omega)
    rw [t1, t2, w5, w6, wrap_step, wrap_step, wrap_step]
    refine ⟨hyc, hyd, fun hq => leave ?_, fun hq => ?_⟩
    · have hq := bne_iff_ne.1 hq
      rw [← hfs, fs, if_neg (by omega), if_pos hq]
    · have hq : (x + a) / (y + c) = (x + b) / (y + d) := by
        rcases Classical.em ((x + a) / (y + c) = (x + b) / (y + d)) with e | e
        · exact e
        · rw [bne_iff_ne.2 e] at hq; cases hq
      obtain ⟨G, hlt'⟩ := F.step C hyc hyd rfl hq.symm
      have G' := G
      obtain ⟨_, _, _, g1, g2, g3, g4, gs, _, _, gc, gd⟩ := G'
      have hfs' : fs k y (x - (x + a) / (y + c) * y) c d (a - (x + a) / (y + c) * c) (b - (x + a) / (y + c) * d) = foR p q := by
        rw [← hfs, fs, if_neg (by omega), if_neg (fun h => h hq)]
      generalize (x + a) / (y + c) = Q at *
      have gc := ent_range gc
      have gd := ent_range gd
      have v1 : IntKind.i64.wrap (x - Q * y) = x - Q * y := IntWalk.i64_in _ (by
        generalize Q * y = Z at *
        generalize a - Q * c = A at *
        generalize b - Q * d = D at *
        clear sg hfs'
        rcases gs with h | h
        · have := h.2.2.1; have := h.2.2.2.1; omega
        · have := h.2.2.1; have := h.2.2.2.1; omega)
      have v2 : IntKind.i64.wrap (a - Q * c) = a - Q * c := IntWalk.i64_in _ gc
      have v3 : IntKind.i64.wrap (b - Q * d) = b - Q * d := IntWalk.i64_in _ gd
      rw [v1, v2, v3]
      refine ⟨⟨y, x - Q * y, c, d, a - Q * c, b - Q * d, k⟩, ⟨hfs', ?_, N, B, e0, e1, C, G⟩, rfl, rfl, rfl, rfl, rfl, rfl, rfl, rfl, rfl, rfl, Nat.lt_succ_self k⟩
      show (x - Q * y + (a - Q * c)).toNat < k
      clear gs sg hfs'
      omega
  · rw [← hfs, fs, if_pos ?_]
    rcases Classical.em (y + c = 0) with e | e
    · exact .inl e
    · refine .inr ?_
      rcases Classical.em (y + d = 0) with e' | e'
      · exact e'
      · rw [bne_iff_ne.2 e, bne_iff_ne.2 e'] at hc; cases hc
theorem card_foresee : FnOK Try.prog 86 (specA [.str [.u, .u]] foC foG) :=
  FnOK_A (CxOK_cons card_fnoughts (CxOK_cons card_highest (CxOK_cons card_signed CxOK_nil))) (iv := fun ls => match ls with
    | [[.u p, .u q]] => [(4, .inv (invFo p q))]
    | _ => []) (N := 100) Try.func86 (by kernel_rfl) (by kernel_rfl) (fun ls => by
    unfold foG
    split
    · exact bnd_two (bnd_agg (by intro k hk; simp only [List.mem_cons, List.not_mem_nil, or_false] at hk; rcases hk with rfl | rfl | rfl | rfl <;> exact ⟨_, rfl⟩)) (bnd_B _)
    · intro z hz; simp at hz) (fun ls vs h => by
    obtain ⟨p, q, rfl, h2⟩ := foC_pair ls h
    exact ok_foresee p q h2)
end Go.Proofs.Ytbjdchpncbgpnaa
end
