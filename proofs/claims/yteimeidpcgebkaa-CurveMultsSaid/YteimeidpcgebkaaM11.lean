/-
  Texts: P20, P21, P22, P23, P26, P27, P30, P31, P32, P33, P34, P35, P36, Dgs.
-/
import Derived.Test.YteimeidpcgebkaaM1
import Derived.Test.YteimeidpcgebkaaM2
import Derived.Test.YteimeidpcgebkaaM3
import Derived.Test.YteimeidpcgebkaaM4
import Derived.Test.YteimeidpcgebkaaM5
import Derived.Test.YteimeidpcgebkaaM6
import Derived.Test.YteimeidpcgebkaaM7
import Derived.Test.YteimeidpcgebkaaM8
import Derived.Test.YteimeidpcgebkaaM9
import Derived.Test.YteimeidpcgebkaaM10
section
namespace Go.Proofs.Yteimeidpcgebkaa
open Go.Sx
theorem knuth {W K r3 r2 rr b3 bl B R g : Nat} (hB : B = b3 * K + bl) (hbl : bl < K) (hR : R = (r3 * W + r2) * K + rr) (hrr : rr < K) (hlt : R < B * W) (hb : W ≤ 2 * b3) (hr2 : r2 < W)
  (hg : g = if r3 < b3 then (r3 * W + r2) / b3 else W - 1) : R / B ≤ g ∧ g ≤ R / B + 2 ∧ g < W := by
 have hW : 0 < W := by omega
 have hb0 : 0 < b3 := by omega
 have hK : 0 < K := by omega
 have hBp : 0 < B := by
  have := Nat.mul_pos hb0 hK
  omega
 have hQ : R / B < W := by
  rw [Nat.div_lt_iff_lt_mul hBp, Nat.mul_comm]
  exact hlt
 have hgW : g < W := by
  rw [hg]
  split
  ·rename_i h
   rw [Nat.div_lt_iff_lt_mul hb0, Nat.mul_comm W]
   have := Nat.mul_le_mul_right W (show r3 + 1 ≤ b3 from h)
   rw [Nat.add_mul, Nat.one_mul] at this
   omega
  ·omega
 have hgb : g * b3 ≤ r3 * W + r2 := by
  rw [hg]
  split
  ·exact Nat.div_mul_le_self _ _
  ·rename_i h
   have h1 := Nat.mul_le_mul (show W - 1 ≤ W by omega) (show b3 ≤ r3 by omega)
   rw [Nat.mul_comm W r3] at h1
   omega
 have hqb : R / B * b3 ≤ r3 * W + r2 := by
  have h1 := Nat.div_mul_le_self R B
  generalize R / B = Q at *
  have h2 : Q * b3 * K ≤ R := by
   have : Q * B = Q * b3 * K + Q * bl := by rw [hB, Nat.mul_add, Nat.mul_assoc]
   omega
  have h3 : Q * b3 * K < (r3 * W + r2 + 1) * K := by
   rw [Nat.add_mul (r3 * W + r2), Nat.one_mul]
   omega
  exact Nat.lt_succ_iff.1 (Nat.lt_of_mul_lt_mul_right h3)
 refine ⟨?_, ?_, hgW⟩
 ·rw [hg]
  split
  ·rw [Nat.le_div_iff_mul_le hb0]
   exact hqb
  ·omega
 ·have d := Nat.div_add_mod R B
  have m := Nat.mod_lt R hBp
  have h1 : g * B = g * b3 * K + g * bl := by rw [hB, Nat.mul_add, Nat.mul_assoc]
  have h2 := Nat.mul_le_mul_right K hgb
  have h3 : g * bl ≤ W * K := Nat.mul_le_mul (by omega) (by omega)
  have h3' : g * bl < W * K := by
   rcases Nat.eq_zero_or_pos bl with e | e
   ·rw [e, Nat.mul_zero]; exact Nat.mul_pos hW hK
   ·exact Nat.lt_of_lt_of_le (Nat.mul_lt_mul_of_pos_right hgW e) (Nat.mul_le_mul_left W (by omega))
  have h4 := Nat.mul_le_mul_right K hb
  have h5 : 2 * b3 * K = 2 * (b3 * K) := Nat.mul_assoc _ _ _
  generalize R / B = Q at *
  have h6 : g * B < (Q + 3) * B := by
   rw [Nat.add_mul, Nat.mul_comm Q B]
   generalize g * b3 * K = A at *
   generalize (r3 * W + r2) * K = C at *
   generalize b3 * K = D at *
   generalize B * Q = E at *
   omega
  have := Nat.lt_of_mul_lt_mul_right h6
  omega
theorem top_of {r3 x6 x7 hi mrem Y P G : Nat} (h1 : P + mrem = r3 * 115792089237316195423570985008687907853269984665640564039457584007913129639936 + x6) (h2 : G = P + Y) (h3 : 115792089237316195423570985008687907853269984665640564039457584007913129639936 * hi + x7 = G) (h4 : x7 < 115792089237316195423570985008687907853269984665640564039457584007913129639936) (h5 : x6 < 115792089237316195423570985008687907853269984665640564039457584007913129639936) (h6 : hi < 18446744073709551616) (h7 : Y ≤ 2 * 115792089237316195423570985008687907853269984665640564039457584007913129639936) (h8 : mrem < 115792089237316195423570985008687907853269984665640564039457584007913129639936) (h9 : r3 < 18446744073709551616) :
  IntKind.u64.wrap ((r3 : Int) - IntKind.u64.wrap ((hi : Int) + if x6 < x7 then 1 else 0)) = (((115792089237316195423570985008687907853269984665640564039457584007913129639936 * 18446744073709551616 + mrem - Y) / 115792089237316195423570985008687907853269984665640564039457584007913129639936 % 18446744073709551616 : Nat) : Int) ∧ (x6 + 115792089237316195423570985008687907853269984665640564039457584007913129639936 - x7) % 115792089237316195423570985008687907853269984665640564039457584007913129639936 = (115792089237316195423570985008687907853269984665640564039457584007913129639936 * 18446744073709551616 + mrem - Y) % 115792089237316195423570985008687907853269984665640564039457584007913129639936 := by
 simp only [wrap_mod]
 split
 ·rename_i h
  have e : 115792089237316195423570985008687907853269984665640564039457584007913129639936 * 18446744073709551616 + mrem - Y = 115792089237316195423570985008687907853269984665640564039457584007913129639936 * (18446744073709551616 + r3 - hi - 1) + (115792089237316195423570985008687907853269984665640564039457584007913129639936 + x6 - x7) := by omega
  rw [e]
  omega
 ·rename_i h
  have e : 115792089237316195423570985008687907853269984665640564039457584007913129639936 * 18446744073709551616 + mrem - Y = 115792089237316195423570985008687907853269984665640564039457584007913129639936 * (18446744073709551616 + r3 - hi) + (x6 - x7) := by omega
  rw [e]
  omega
theorem top_step {mrem B e : Nat} (h1 : mrem < B) (h2 : B < 115792089237316195423570985008687907853269984665640564039457584007913129639936) (he : e ≤ 2) (h0 : e ≠ 0) :
  IntKind.u64.wrap ((((115792089237316195423570985008687907853269984665640564039457584007913129639936 * 18446744073709551616 + mrem - e * B) / 115792089237316195423570985008687907853269984665640564039457584007913129639936 % 18446744073709551616 : Nat) : Int) + (((115792089237316195423570985008687907853269984665640564039457584007913129639936 * 18446744073709551616 + mrem - e * B) % 115792089237316195423570985008687907853269984665640564039457584007913129639936 + B) / 115792089237316195423570985008687907853269984665640564039457584007913129639936 : Nat)) = (((115792089237316195423570985008687907853269984665640564039457584007913129639936 * 18446744073709551616 + mrem - (e - 1) * B) / 115792089237316195423570985008687907853269984665640564039457584007913129639936 % 18446744073709551616 : Nat) : Int) ∧ (115792089237316195423570985008687907853269984665640564039457584007913129639936 * 18446744073709551616 + mrem - e * B + B) = (115792089237316195423570985008687907853269984665640564039457584007913129639936 * 18446744073709551616 + mrem - (e - 1) * B) ∧ (115792089237316195423570985008687907853269984665640564039457584007913129639936 * 18446744073709551616 + mrem - e * B) / 115792089237316195423570985008687907853269984665640564039457584007913129639936 % 18446744073709551616 ≠ 0 := by
 simp only [wrap_mod]
 rcases (show e = 1 ∨ e = 2 by omega) with rfl | rfl
 ·refine ⟨?_, ?_, ?_⟩ <;> omega
 ·refine ⟨?_, ?_, ?_⟩ <;> omega
theorem top_zero {mrem B : Nat} (h1 : mrem < B) (h2 : B < 115792089237316195423570985008687907853269984665640564039457584007913129639936) : (115792089237316195423570985008687907853269984665640564039457584007913129639936 * 18446744073709551616 + mrem - 0 * B) / 115792089237316195423570985008687907853269984665640564039457584007913129639936 % 18446744073709551616 = 0 ∧ (115792089237316195423570985008687907853269984665640564039457584007913129639936 * 18446744073709551616 + mrem - 0 * B) % 115792089237316195423570985008687907853269984665640564039457584007913129639936 = mrem := by omega
def gN (h l y : Nat) : Nat := if h < y then (h * 18446744073709551616 + l) / y else 18446744073709551616 - 1
theorem guess_nat (h l y : Nat) : guessN (h : Int) (l : Int) (y : Int) = ((gN h l y : Nat) : Int) := by
 unfold guessN gN
 rcases Nat.lt_or_ge h y with c | c
 ·rw [if_pos (by omega), if_pos c, Int.natCast_ediv, Int.natCast_add, Int.natCast_mul]
  rfl
 ·rw [if_neg (by omega), if_neg (by omega)]
  rfl
theorem kn_all {r0 r1 r2 r3 y0 y1 y2 y3 X R B : Nat} (b0 : r0 < 18446744073709551616) (b1 : r1 < 18446744073709551616) (b2 : r2 < 18446744073709551616) (c0 : y0 < 18446744073709551616) (c1 : y1 < 18446744073709551616) (c2 : y2 < 18446744073709551616) (bX : X < 18446744073709551616)
  (hB : B = ((y3 * 18446744073709551616 + y2) * 18446744073709551616 + y1) * 18446744073709551616 + y0) (hR : R = (((r3 * 18446744073709551616 + r2) * 18446744073709551616 + r1) * 18446744073709551616 + r0) * 18446744073709551616 + X) (hrb : ((r3 * 18446744073709551616 + r2) * 18446744073709551616 + r1) * 18446744073709551616 + r0 < B) (hbt : 115792089237316195423570985008687907853269984665640564039457584007913129639936 ≤ 2 * B) :
  B = y3 * 6277101735386680763835789423207666416102355444464034512896 + ((y2 * 18446744073709551616 + y1) * 18446744073709551616 + y0) ∧ (y2 * 18446744073709551616 + y1) * 18446744073709551616 + y0 < 6277101735386680763835789423207666416102355444464034512896 ∧ R = (r3 * 18446744073709551616 + r2) * 6277101735386680763835789423207666416102355444464034512896 + ((r1 * 18446744073709551616 + r0) * 18446744073709551616 + X) ∧ (r1 * 18446744073709551616 + r0) * 18446744073709551616 + X < 6277101735386680763835789423207666416102355444464034512896 ∧ R < B * 18446744073709551616 ∧ 18446744073709551616 ≤ 2 * y3 ∧ R = r3 * 115792089237316195423570985008687907853269984665640564039457584007913129639936 + (((r2 * 18446744073709551616 + r1) * 18446744073709551616 + r0) * 18446744073709551616 + X) ∧ ((r2 * 18446744073709551616 + r1) * 18446744073709551616 + r0) * 18446744073709551616 + X < 115792089237316195423570985008687907853269984665640564039457584007913129639936 := by
 refine ⟨?_, ?_, ?_, ?_, ?_, ?_, ?_, ?_⟩
 ·clear hR hrb hbt b0 b1 b2 bX; exact Nat.le_antisymm (by omega) (by omega)
 ·clear hR hrb hbt hB b0 b1 b2 bX; omega
 ·clear hB hrb hbt; exact Nat.le_antisymm (by omega) (by omega)
 ·clear hR hB hrb hbt; omega
 ·clear hB hbt; omega
 ·clear hR hrb; omega
 ·clear hB hrb hbt; exact Nat.le_antisymm (by omega) (by omega)
 ·clear hR hB hrb hbt; omega
theorem ok_digit : ∀ (r : Nat) (x : Int) (b : Nat), Ok (digC r x b) → Owes Try.prog cxDig [(7, .inv (invDig r x b))] 100 Try.f75 [sU r, sI .u64 x, sU b] (digG r x b) := by
 intro r x b hc
 obtain ⟨hx, hrb, hbt, _⟩ := hc
 rw [vc_digit]
 obtain ⟨X, rfl⟩ := Int.eq_ofNat_of_zero_le hx.1
 have bX : X < 18446744073709551616 := Int.ofNat_lt.1 hx.2
 obtain ⟨r0, h0, b0⟩ := limb_is r 0
 obtain ⟨r1, h1, b1⟩ := limb_is r 1
 obtain ⟨r2, h2, b2⟩ := limb_is r 2
 obtain ⟨r3, h3, b3⟩ := limb_is r 3
 obtain ⟨y0, k0, c0⟩ := limb_is b 0
 obtain ⟨y1, k1, c1⟩ := limb_is b 1
 obtain ⟨y2, k2, c2⟩ := limb_is b 2
 obtain ⟨y3, k3, c3⟩ := limb_is b 3
 have hA := horner_is r r0 r1 r2 r3 h0 h1 h2 h3
 have hB := horner_is b y0 y1 y2 y3 k0 k1 k2 k3
 have hBM : b % M256 < M256 := Nat.mod_lt _ (by rw [M256_eq]; decide)
 have hT : ∀ e, digAt r (X : Int) b e = M256 * 18446744073709551616 + digR r (X : Int) % (b % M256) - e * (b % M256) := fun e => rfl
 have hR : digR r (X : Int) = r % M256 * 18446744073709551616 + X := by unfold digR; rw [Int.toNat_natCast]
 have hJ : join (X : Int) (limb r 0) (limb r 1) (limb r 2) % M256 = ((r2 * 18446744073709551616 + r1) * 18446744073709551616 + r0) * 18446744073709551616 + X := by
  rw [h0, h1, h2, join_nat, M_val]
  omega
 have hBg : ∀ g : Nat, b * g % M256 = b % M256 * g % M256 := fun g => mod_mul_M b g
 rw [h0, h1, h2] at hJ
 rw [M_val] at hA hB hBM hT hR hJ hBg hrb hbt
 have hbB : ∀ v : Nat, (v + b) % 115792089237316195423570985008687907853269984665640564039457584007913129639936 = (v + b % 115792089237316195423570985008687907853269984665640564039457584007913129639936) % 115792089237316195423570985008687907853269984665640564039457584007913129639936 := fun v => by rw [Nat.add_mod v b, Nat.add_mod v (b % 115792089237316195423570985008687907853269984665640564039457584007913129639936), Nat.mod_mod]
 rw [h0, h1, h2, h3, k3, M_val]
 intro x1 x2 x3 x4 x5 x6 x7
 have E1 : x1 = ((gN r3 r2 y3 : Nat) : Int) := guess_nat _ _ _
 have E5 : x5 = gN r3 r2 y3 := by simp only [x5, E1]; exact Int.toNat_natCast _
 have E6 : x6 = ((r2 * 18446744073709551616 + r1) * 18446744073709551616 + r0) * 18446744073709551616 + X := hJ
 have E7 : x7 = x2 * x5 % 115792089237316195423570985008687907853269984665640564039457584007913129639936 := by simp only [x7, x2]; exact hBg _
 have E3 : x3 = digR r (X : Int) / x2 := rfl
 have E2 : x2 = b % 115792089237316195423570985008687907853269984665640564039457584007913129639936 := rfl
 clear_value x7 x6 x5 x4 x3
 clear_value x1
 rw [← E2] at hB hBM hT hrb hbt hbB
 clear_value x2
 generalize digR r (X : Int) = R at *
 rw [hA] at hR hrb
 obtain ⟨n1, n2, n3, n4, n5, n6, n7, n8⟩ := kn_all b0 b1 b2 c0 c1 c2 bX hB hR hrb hbt
 obtain ⟨q1, q2, q3⟩ := knuth (W := 18446744073709551616) (K := 6277101735386680763835789423207666416102355444464034512896) (r3 := r3) (r2 := r2) (rr := (r1 * 18446744073709551616 + r0) * 18446744073709551616 + X) (b3 := y3) (bl := (y2 * 18446744073709551616 + y1) * 18446744073709551616 + y0) (B := x2) (R := R) (g := gN r3 r2 y3) n1 n2 n3 n4 n5 n6 b2 rfl
 rw [← E3] at q1 q2
 rw [← E5] at q1 q2 q3 E1
 have hBp : 0 < x2 := by omega
 have dm := Nat.div_add_mod R x2
 have ml := Nat.mod_lt R hBp
 rw [← E3] at dm
 have D3 := Nat.div_add_mod (x2 * x5) 115792089237316195423570985008687907853269984665640564039457584007913129639936
 have L3 := Nat.mod_lt (x2 * x5) (show 0 < 115792089237316195423570985008687907853269984665640564039457584007913129639936 by decide)
 have H6 : x2 * x5 / 115792089237316195423570985008687907853269984665640564039457584007913129639936 < 18446744073709551616 := by
  rw [Nat.div_lt_iff_lt_mul (by decide), Nat.mul_comm 18446744073709551616]
  exact Nat.mul_lt_mul'' hBM q3
 have hG : x2 * x5 = x2 * x3 + (x5 - x3) * x2 := by
  rw [Nat.mul_comm (x5 - x3), ← Nat.mul_add]
  congr 1
  omega
 have hY : (x5 - x3) * x2 ≤ 2 * 115792089237316195423570985008687907853269984665640564039457584007913129639936 := Nat.mul_le_mul (by omega) (by omega)
 rw [← E7] at D3 L3
 obtain ⟨t1, t2⟩ := top_of (r3 := r3) (x6 := x6) (x7 := x7) (hi := x2 * x5 / 115792089237316195423570985008687907853269984665640564039457584007913129639936) (mrem := R % x2) (Y := (x5 - x3) * x2) (P := x2 * x3) (G := x2 * x5) (by rw [dm, n7, E6]) hG D3 L3 (by rw [E6]; exact n8) H6 hY (Nat.lt_trans ml hBM) b3
 have step : ∀ e, e ≤ 2 → e ≠ 0 → IntKind.u64.wrap (((digAt r (X : Int) b e / 115792089237316195423570985008687907853269984665640564039457584007913129639936 % 18446744073709551616 : Nat) : Int) + ((digAt r (X : Int) b e % 115792089237316195423570985008687907853269984665640564039457584007913129639936 + x2) / 115792089237316195423570985008687907853269984665640564039457584007913129639936 : Nat)) = ((digAt r (X : Int) b (e - 1) / 115792089237316195423570985008687907853269984665640564039457584007913129639936 % 18446744073709551616 : Nat) : Int) ∧ digAt r (X : Int) b e + x2 = digAt r (X : Int) b (e - 1) ∧ digAt r (X : Int) b e / 115792089237316195423570985008687907853269984665640564039457584007913129639936 % 18446744073709551616 ≠ 0 := by
  intro e he h0
  have := top_step (mrem := R % x2) (B := x2) (e := e) ml hBM he h0
  rw [← hT, ← hT] at this
  exact this
 obtain ⟨u1, u2⟩ := top_zero (mrem := R % x2) (B := x2) ml hBM
 rw [← hT] at u1 u2 t1 t2
 have y3p : 0 < y3 := by clear hT; omega
 have g1 : x5 - x3 ≤ 2 := by clear hT; omega
 have g2 : x3 + (x5 - x3) = x5 := by clear hT; omega
 have g3 : x3 < 18446744073709551616 := by clear hT; omega
 have hmM : R % x2 < 115792089237316195423570985008687907853269984665640564039457584007913129639936 := Nat.lt_trans ml hBM
 clear hT n1 n2 n3 n4 n5 n6 n7 n8 hA hB hR hJ hBg hG hY D3 L3 H6 dm E6 E7
 generalize digAt r (X : Int) b = T at *
 generalize R % x2 = mr at *
 refine ⟨word_nat b3, word_nat b2, word_nat c3, Int.ofNat_lt.2 y3p, ?_, hx, word_nat b0, word_nat b1, word_nat b2, fun _ => rfl, x5 - x3, ⟨g1, by rw [g2]; exact q3⟩, rfl, rfl, rfl, t1, ?_, t2, rfl, rfl, rfl, rfl, fun y hy => ⟨fun c => ?_, fun c => ?_⟩⟩
 ·rw [E1]; exact word_nat q3
 ·rw [E1, g2]
 ·have hy0 : y ≠ 0 := by
   rintro rfl
   rw [u1] at c
   exact absurd c (by decide)
  obtain ⟨s1, s2, s3⟩ := step y hy.1 hy0
  refine ⟨y - 1, ⟨by omega, by omega⟩, rfl, rfl, rfl, s1, ?_, ?_, rfl, rfl, rfl, rfl, by omega⟩
  ·rw [wrap_mod]; omega
  ·rw [hbB, s2]
 ·have hy0 : y = 0 := by
   refine Classical.byContradiction fun h => ?_
   obtain ⟨s1, s2, s3⟩ := step y hy.1 h
   rw [bne_eq_false_iff_eq] at c
   exact s3 (Int.ofNat.inj c)
  subst hy0
  exact ⟨rfl, by rw [u2, Nat.mod_eq_of_lt hmM], trivial⟩
theorem card_digit : FnOK Try.prog 75 (specUWU digC digG) :=
 FnOK_UWU (CxOK_cons card_guess (CxOK_cons card_times (CxOK_cons card_less (CxOK_cons card_plus CxOK_nil)))) (iv := fun r x b => [(7, .inv (invDig r x b))]) (N := 100) Try.func75 (by kernel_rfl) (by kernel_rfl) (fun _ _ _ => bnd_two (bnd_I _ _) (bnd_U _)) ok_digit
end Go.Proofs.Yteimeidpcgebkaa
end

section
namespace Go.Proofs.Yteimeidpcgebkaa
open Go.Sx
theorem M_pow : M256 = 2 ^ 256 := rfl
theorem horner_top {P x c0 c1 c2 c3 : Nat} (h : M256 * x + (((c3 * 18446744073709551616 + c2) * 18446744073709551616 + c1) * 18446744073709551616 + c0) = P) : P = (((x * 18446744073709551616 + c3) * 18446744073709551616 + c2) * 18446744073709551616 + c1) * 18446744073709551616 + c0 := by
 rw [M_val] at h
 exact Nat.le_antisymm (by omega) (by omega)
theorem ok_divide : ∀ a b : Nat, Ok (dvC a b) → Owes Try.prog cxDv [] 100 Try.f61 [sU a, sU b] (dvG a b) := by
 intro a b hc
 obtain ⟨hb0, _⟩ := hc
 rw [vc_divide]
 have hMp : 0 < M256 := by rw [M256_eq]; decide
 have hA : a % M256 < M256 := Nat.mod_lt _ hMp
 have hB : b % M256 < M256 := Nat.mod_lt _ hMp
 have hl := bitsN_le (n := b % M256) (k := 256) hB
 obtain ⟨hb1, hb2⟩ := bitsN_two (b % M256) (by omega)
 obtain ⟨s, hs⟩ : ∃ s, s = 256 - bitsN (b % M256) := ⟨_, rfl⟩
 have hs' : bitsN (b % M256) + s = 256 := by omega
 have hDE : 2 ^ (256 - s) * 2 ^ s = M256 := by rw [← Nat.pow_add, show 256 - s + s = 256 by omega]; rfl
 have hD := Nat.two_pow_pos s
 have hE := Nat.two_pow_pos (256 - s)
 rw [show bitsN (b % M256) = 256 - s by omega] at hb1 hb2
 have hYM : b % M256 * 2 ^ s < M256 := by
  exact Nat.lt_of_lt_of_eq (Nat.mul_lt_mul_of_pos_right hb1 hD) hDE
 have hYt : M256 ≤ 2 * (b % M256 * 2 ^ s) := by
  have := Nat.mul_le_mul_right (2 ^ s) hb2
  rw [hDE, Nat.mul_assoc] at this
  exact this
 have hY8 : b * 2 ^ s % M256 = b % M256 * 2 ^ s := (mod_mul_M b _).trans (Nat.mod_eq_of_lt hYM)
 have hxD : a % M256 / 2 ^ (256 - s) < 2 ^ s := by
  rw [Nat.div_lt_iff_lt_mul hE, Nat.mul_comm, hDE]
  exact hA
 have hxY : a % M256 / 2 ^ (256 - s) < b % M256 * 2 ^ s := Nat.lt_of_lt_of_le hxD (Nat.le_mul_of_pos_left _ hb0)
 obtain ⟨c0, h0, l0⟩ := limb_is (a * 2 ^ s) 0
 obtain ⟨c1, h1, l1⟩ := limb_is (a * 2 ^ s) 1
 obtain ⟨c2, h2, l2⟩ := limb_is (a * 2 ^ s) 2
 obtain ⟨c3, h3, l3⟩ := limb_is (a * 2 ^ s) 3
 have hH := horner_is (a * 2 ^ s) c0 c1 c2 c3 h0 h1 h2 h3
 have hN : a % M256 * 2 ^ s = (((a % M256 / 2 ^ (256 - s) * 18446744073709551616 + c3) * 18446744073709551616 + c2) * 18446744073709551616 + c1) * 18446744073709551616 + c0 := by
  refine horner_top ?_
  rw [← hH, mod_mul_M]
  have e : a % M256 / 2 ^ (256 - s) = a % M256 * 2 ^ s / M256 := by rw [← hDE, Nat.mul_div_mul_right _ _ hD]
  rw [e]
  exact Nat.div_add_mod _ _
 obtain ⟨v1, v2⟩ := div_moved (a % M256) (b % M256) (2 ^ s) hD
 have hYp : 0 < b % M256 * 2 ^ s := Nat.mul_pos hb0 hD
 obtain ⟨d1, d2⟩ := long_div 18446744073709551616 c0 c1 c2 (a % M256 / 2 ^ (256 - s) * 18446744073709551616 + c3) (b % M256 * 2 ^ s) hYp
 rw [← hN, ← v1] at d1
 rw [← hN] at d2
 rw [d2] at v2
 intro x1 x2 x3 x4 x5 x6 x7 x8 x9 x10 x11 x12 x13 x14 x15 x16 x17 x18 x19 x20 x21 x22
 have E2 : x2 = (s : Int) := by simp only [x2, x1, ← hs]
 have E3 : x3 = ((256 - s : Nat) : Int) := by
  simp only [x3, E2]
  rw [IntWalk.i64_in _ (by omega)]
  omega
 have E4 : x4 = 2 ^ s := by simp only [x4, E2, Int.toNat_natCast]
 have E5 : x5 = (c3 : Int) := by simp only [x5, E4]; exact h3
 have E9 : x9 = (c2 : Int) := by simp only [x9, E4]; exact h2
 have E12 : x12 = (c1 : Int) := by simp only [x12, E4]; exact h1
 have E15 : x15 = (c0 : Int) := by simp only [x15, E4]; exact h0
 have E7 : x7 = a % M256 / 2 ^ (256 - s) := by simp only [x7, x6, E3, Int.toNat_natCast]
 have E8 : x8 = b % M256 * 2 ^ s := by simp only [x8, E4]; exact hY8
 have hdig : ∀ r c : Nat, r < b % M256 * 2 ^ s → digR r (c : Int) = r * 18446744073709551616 + c := fun r c h => by
  unfold digR
  rw [Int.toNat_natCast, Nat.mod_eq_of_lt (Nat.lt_trans h hYM)]
 have E10 : x10 = a % M256 / 2 ^ (256 - s) * 18446744073709551616 + c3 := by simp only [x10, E7, E5]; exact hdig _ _ hxY
 have E11 : x11 = x10 % (b % M256 * 2 ^ s) := by simp only [x11, E8]
 have lt1 := Nat.mod_lt x10 hYp
 have ql3 := long_lt hYp hxY l3
 have E13 : x13 = x10 % (b % M256 * 2 ^ s) * 18446744073709551616 + c2 := by simp only [x13, E11, E9]; exact hdig _ _ lt1
 clear_value x10 x11
 have E14 : x14 = x13 % (b % M256 * 2 ^ s) := by simp only [x14, E8]
 have lt2 := Nat.mod_lt x13 hYp
 have ql2 := long_lt hYp lt1 l2
 have E16 : x16 = x13 % (b % M256 * 2 ^ s) * 18446744073709551616 + c1 := by simp only [x16, E14, E12]; exact hdig _ _ lt2
 have E17 : x17 = x16 % (b % M256 * 2 ^ s) := by simp only [x17, E8]
 have lt3 := Nat.mod_lt x16 hYp
 have ql1 := long_lt hYp lt2 l1
 have E18 : x18 = x16 % (b % M256 * 2 ^ s) * 18446744073709551616 + c0 := by simp only [x18, E17, E15]; exact hdig _ _ lt3
 have ql0 := long_lt hYp lt3 l0
 have E19 : x19 = ((x18 / (b % M256 * 2 ^ s) : Nat) : Int) := by simp only [x19, E8]
 have E20 : x20 = ((x16 / (b % M256 * 2 ^ s) : Nat) : Int) := by simp only [x20, E8]
 have E21 : x21 = ((x13 / (b % M256 * 2 ^ s) : Nat) : Int) := by simp only [x21, E8]
 have E22 : x22 = ((x10 / (b % M256 * 2 ^ s) : Nat) : Int) := by simp only [x22, E8]
 have E6 : x6 = a % M256 := rfl
 have E1 : x1 = b % M256 := rfl
 rw [← E10, ← E13, ← E16, ← E18] at d1 v2
 rw [← E10] at ql3
 rw [← E13] at ql2
 rw [← E16] at ql1
 rw [← E18] at ql0
 clear_value x22 x21 x20 x19 x18 x17 x16 x15 x14 x13 x12 x9 x8 x7 x6 x5 x4 x3 x2 x1
 rw [← E7, ← E8] at hxY
 rw [← E8] at hYM hYt
 rw [← E8] at E11 E14 E17 lt1 lt2 lt3 E19 E20 E21 E22 ql0 ql1 ql2 ql3 d1 v2
 rw [← E1] at v2 d1
 rw [← E6] at v2 d1
 rw [← E4] at v2
 have w : ∀ v : Nat, v < x8 → v % M256 < x8 := fun v hv => by rw [Nat.mod_eq_of_lt (Nat.lt_trans hv hYM)]; exact hv
 have h2 : (0 : Int) ≤ x2 ∧ x2 ≤ 256 := by rw [E2]; omega
 refine ⟨h2, by rw [E3]; omega, h2, by rw [E5]; exact word_nat l3, w _ hxY, hYt, by rw [E9]; exact word_nat l2, w _ (by rw [E11]; exact lt1), hYt, by rw [E12]; exact word_nat l1, w _ (by rw [E14]; exact lt2), hYt, by rw [E15]; exact word_nat l0, w _ (by rw [E17]; exact lt3), hYt, h2, ⟨by rw [E19]; exact word_nat ql0, by rw [E20]; exact word_nat ql1, by rw [E21]; exact word_nat ql2, by rw [E22]; exact word_nat ql3, ?_, trivial⟩, ?_, trivial⟩
 ·rw [E19, E20, E21, E22, join_nat, d1]
 ·rw [Nat.mod_eq_of_lt (Nat.lt_trans (Nat.mod_lt x18 (by omega)) hYM), v2]
theorem card_divide : FnOK Try.prog 61 (specUUC dvC dvG) :=
 FnOK_UUC (CxOK_cons card_noughts (CxOK_cons card_up (CxOK_cons card_down (CxOK_cons card_digit CxOK_nil)))) (iv := fun _ _ => []) (N := 100) Try.func61 (by kernel_rfl) (by kernel_rfl) (fun _ _ => bnd_two (bnd_U _) (bnd_U _)) ok_divide
end Go.Proofs.Yteimeidpcgebkaa
end

section
namespace Go.Proofs.Yteimeidpcgebkaa
open Go.Sx
theorem bnd_three {x y z : SA} (h : x.bnd none0) (h' : y.bnd none0) (h'' : z.bnd none0) : SV.bnd none0 (.tup [x, y, z]) := by
 intro k hk
 simp only [List.mem_cons, List.not_mem_nil, or_false] at hk
 rcases hk with rfl | rfl | rfl <;> assumption
theorem ok_DivMod : ∀ a b : Nat, Owes Try.prog cxDm [] 100 Try.f45 [sU a, sU b] (dmG a b) := by
 intro a b
 rw [vc_DivMod]
 intro x1 x2 x3 x4 x5 x6 x7
 refine ⟨fun h => ?_, fun h => ?_⟩
 ·have h : x1 = 0 := beq_iff_eq.1 h
  refine ⟨⟨?_, trivial⟩, ⟨?_, trivial⟩, ?_⟩
  ·simp only [x4, if_pos h]; exact (Nat.zero_mod _).symm
  ·simp only [x6, if_pos h]; exact (Nat.zero_mod _).symm
  ·simp only [x7, if_pos h]
 ·have h : x1 ≠ 0 := beq_eq_false_iff_ne.1 h
  refine ⟨Nat.pos_of_ne_zero h, ⟨?_, trivial⟩, ⟨?_, trivial⟩, ?_⟩
  ·simp only [x4, if_neg h]
  ·simp only [x6, if_neg h]
  ·simp only [x7, if_neg h]
theorem card_DivMod : FnOK Try.prog 45 (specUU dmG) :=
 FnOK_UU (CxOK_cons card_divide CxOK_nil) (iv := []) (N := 100) Try.func45 (by kernel_rfl) (by kernel_rfl) (fun _ _ => bnd_three (bnd_U _) (bnd_U _) (bnd_I _ _)) ok_DivMod
end Go.Proofs.Yteimeidpcgebkaa
end

section
namespace Go.Proofs.Yteimeidpcgebkaa
open Go.Sx
theorem ok_fguess : ∀ h l y : Int, Ok (guessC h l y) → Owes Try.prog cxGuess [] 100 Try.f98 [sI .u64 h, sI .u64 l, sI .u64 y] (guessG h l y) := by
 intro h l y hc
 have := ok_guess h l y hc
 rw [vc_guess] at this
 rw [vc_fguess]
 exact this
theorem card_fguess : FnOK Try.prog 98 (specWWW guessC guessG) :=
 FnOK_WWW (CxOK_cons card_Div64 CxOK_nil) (iv := fun _ _ _ => []) (N := 100) Try.func98 (by kernel_rfl) (by kernel_rfl) (fun _ _ _ => bnd_one (bnd_I _ _)) ok_fguess
theorem ok_fnoughts : ∀ a : Nat, Owes Try.prog cxNoughts [] 100 Try.f80 [sU a] (noughtsG a) := by
 intro a
 have := ok_noughts a
 rw [vc_noughts] at this
 rw [vc_fnoughts]
 exact this
theorem card_fnoughts : FnOK Try.prog 80 (specU noughtsG) :=
 FnOK_U (CxOK_cons card_LZ64 CxOK_nil) (iv := []) (N := 100) Try.func80 (by kernel_rfl) (by kernel_rfl) (fun _ => bnd_one (bnd_I _ _)) ok_fnoughts
theorem sum_over {a b m M : Nat} (ha : a < m) (hb : b < m) (hm : m < M) (h : M ≤ a + b ∨ m ≤ a + b) : ((a + b) % M + M - m) % M = (a + b) % m % M := by
 have e : (a + b) % m = a + b - m := by
  rw [Nat.mod_eq_sub_mod (by omega), Nat.mod_eq_of_lt (by omega)]
 rw [e]
 rcases Nat.lt_or_ge (a + b) M with c | c
 ·rw [Nat.mod_eq_of_lt c, show a + b + M - m = (a + b - m) + M by omega, Nat.add_mod_right]
 ·rw [Nat.mod_eq_sub_mod c, Nat.mod_eq_of_lt (show a + b - M < M by omega), show a + b - M + M - m = a + b - m by omega]
theorem ok_sum : ∀ a b m : Nat, Ok (prodC a b m) → Owes Try.prog cxSum [] 100 Try.f70 [sU a, sU b, sU m] (sumG a b m) := by
 intro a b m hc
 obtain ⟨ha, hb, _⟩ := hc
 rw [vc_sum]
 have hM : 0 < M256 := by rw [M256_eq]; decide
 have hm := Nat.mod_lt m hM
 have hab : (a + b) % M256 = (a % M256 + b % M256) % M256 := Nat.add_mod _ _ _
 intro x1 x2 x3 x4 x5 x6 x7
 refine ⟨id, id, id, fun h => by rw [h]; rfl, fun h => ⟨?_, trivial⟩, fun h => ⟨?_, trivial⟩⟩
 ·have hor : M256 ≤ a % M256 + b % M256 ∨ m % M256 ≤ a % M256 + b % M256 := by
   rw [Bool.or_eq_true, decide_eq_true_eq, decide_eq_true_eq] at h
   rcases h with h | h
   ·exact .inl h
   ·refine Nat.lt_or_ge (a % M256 + b % M256) M256 |>.elim (fun c => .inr ?_) .inl
    refine Nat.le_of_not_lt fun c' => ?_
    have : x4 = -1 := by
     simp only [x4, x3]
     unfold cmpN
     rw [if_pos (by rw [hab, Nat.mod_eq_of_lt c]; exact c')]
    omega
  have := sum_over ha hb hm hor
  simp only [x5, x6, x7, x1, x3, hab]
  exact this
 ·rw [Bool.or_eq_false_iff, decide_eq_false_iff_not, decide_eq_false_iff_not] at h
  have h1 : a % M256 + b % M256 < M256 := Nat.lt_of_not_le h.1
  have h2 : a % M256 + b % M256 < m % M256 := by
   refine Nat.lt_of_not_le fun c => h.2 ?_
   simp only [x4, x3]
   unfold cmpN
   rw [if_neg (by rw [hab, Nat.mod_eq_of_lt h1]; omega)]
   split <;> decide
  simp only [x5, x7, x1, x3, x6, hab]
  rw [Nat.mod_eq_of_lt h2]
theorem card_sum : FnOK Try.prog 70 (specUUU prodC sumG) :=
 FnOK_UUU (CxOK_cons card_Add (CxOK_cons card_Cmp (CxOK_cons card_Sub CxOK_nil))) (iv := fun _ _ _ => []) (N := 100) Try.func70 (by kernel_rfl) (by kernel_rfl) (fun _ _ _ => bnd_one (bnd_U _)) ok_sum
theorem ok_difference : ∀ a b m : Nat, Ok (prodC a b m) → Owes Try.prog cxSum [] 100 Try.f66 [sU a, sU b, sU m] (diffG a b m) := by
 intro a b m hc
 obtain ⟨ha, hb, _⟩ := hc
 rw [vc_difference]
 have hM : 0 < M256 := by rw [M256_eq]; decide
 have hm := Nat.mod_lt m hM
 intro x1 x2 x3 x4 x5
 have E1 : x1 = a % M256 := rfl
 have E2 : x2 = b % M256 := rfl
 have E4 : x4 = m % M256 := rfl
 have E3 : x3 = x1 + M256 - x2 := rfl
 have E5 : x5 = (x1 + x4 - x2) % x4 % M256 := rfl
 clear_value x5 x3 x4 x2 x1
 rw [← E1, ← E4] at ha
 rw [← E2, ← E4] at hb
 rw [← E4] at hm
 refine ⟨fun h => ⟨?_, trivial⟩, fun h => ⟨?_, trivial⟩⟩
 ·have h := of_decide_eq_true h
  rw [E5, Nat.mod_eq_of_lt (show x1 + x4 - x2 < x4 by omega), Nat.add_mod, ← E4, E3]
  rw [Nat.mod_eq_of_lt (show x1 + M256 - x2 < M256 by omega), show x1 + M256 - x2 + x4 = (x1 + x4 - x2) + M256 by omega, Nat.add_mod_right]
 ·have h := of_decide_eq_false h
  rw [E5, E3, show x1 + M256 - x2 = (x1 - x2) + M256 by omega, Nat.add_mod_right, show x1 + x4 - x2 = (x1 - x2) + x4 by omega, Nat.add_mod_right, Nat.mod_eq_of_lt (show x1 - x2 < x4 by omega)]
theorem card_difference : FnOK Try.prog 66 (specUUU prodC diffG) :=
 FnOK_UUU (CxOK_cons card_Add (CxOK_cons card_Cmp (CxOK_cons card_Sub CxOK_nil))) (iv := fun _ _ _ => []) (N := 100) Try.func66 (by kernel_rfl) (by kernel_rfl) (fun _ _ _ => bnd_one (bnd_U _)) ok_difference
theorem ok_rest : ∀ a b m : Nat, Ok (restC a b m) → Owes Try.prog cxRest [] 100 Try.f81 [sU a, sU b, sU m] (restG a b m) := by
 intro a b m hc
 obtain ⟨ha, hb, ht, _⟩ := hc
 rw [vc_rest]
 have hM : 0 < M256 := by rw [M256_eq]; decide
 have hm := Nat.mod_lt m hM
 have hmp : 0 < m % M256 := by omega
 obtain ⟨c0, h0, l0⟩ := limb_is (a * b) 0
 obtain ⟨c1, h1, l1⟩ := limb_is (a * b) 1
 obtain ⟨c2, h2, l2⟩ := limb_is (a * b) 2
 obtain ⟨c3, h3, l3⟩ := limb_is (a * b) 3
 have hH := horner_is (a * b) c0 c1 c2 c3 h0 h1 h2 h3
 have hP : a % M256 * (b % M256) / M256 < m % M256 := by
  rw [Nat.div_lt_iff_lt_mul hM]
  exact Nat.mul_lt_mul'' ha (Nat.lt_trans hb hm)
 have hN : a % M256 * (b % M256) = (((a % M256 * (b % M256) / M256 * 18446744073709551616 + c3) * 18446744073709551616 + c2) * 18446744073709551616 + c1) * 18446744073709551616 + c0 := by
  refine horner_top ?_
  rw [← hH, Nat.mul_mod a b]
  exact Nat.div_add_mod _ _
 obtain ⟨_, d2⟩ := long_div 18446744073709551616 c0 c1 c2 (a % M256 * (b % M256) / M256 * 18446744073709551616 + c3) (m % M256) hmp
 rw [← hN] at d2
 have hdig : ∀ r c : Nat, r < m % M256 → digR r (c : Int) = r * 18446744073709551616 + c := fun r c h => by
  unfold digR
  rw [Int.toNat_natCast, Nat.mod_eq_of_lt (Nat.lt_trans h hm)]
 rw [h0, h1, h2, h3]
 intro x1 x2 x3 x4 x5 x6 x7 x8 x9 x10
 have E3 : x3 = a % M256 * (b % M256) / M256 := rfl
 have E6 : x6 = (x3 * 18446744073709551616 + c3) % (m % M256) := congrArg (· % (m % M256)) (hdig _ _ hP)
 have lt6 := Nat.mod_lt (x3 * 18446744073709551616 + c3) hmp
 rw [← E6] at lt6
 have E8 : x8 = (x6 * 18446744073709551616 + c2) % (m % M256) := congrArg (· % (m % M256)) (hdig _ _ lt6)
 have lt8 := Nat.mod_lt (x6 * 18446744073709551616 + c2) hmp
 rw [← E8] at lt8
 have E10 : x10 = (x8 * 18446744073709551616 + c1) % (m % M256) := congrArg (· % (m % M256)) (hdig _ _ lt8)
 have lt10 := Nat.mod_lt (x8 * 18446744073709551616 + c1) hmp
 rw [← E10] at lt10
 have w : ∀ v : Nat, v < m % M256 → v % M256 < m % M256 := fun v hv => by rw [Nat.mod_eq_of_lt (Nat.lt_trans hv hm)]; exact hv
 refine ⟨word_nat l3, w _ hP, ht, word_nat l2, w _ lt6, ht, word_nat l1, w _ lt8, ht, word_nat l0, w _ lt10, ht, ?_, trivial⟩
 show digR x10 (c0 : Int) % (m % M256) % M256 = a % M256 * (b % M256) % (m % M256) % M256
 rw [hdig _ _ lt10, d2, E10, E8, E6, E3]
end Go.Proofs.Yteimeidpcgebkaa
end

section
namespace Go.Proofs.Yteimeidpcgebkaa
open Go.Sx
theorem dig_core (r X b : Nat) (bX : X < 18446744073709551616) (hrb : r % M256 < b % M256) (hbt : M256 ≤ 2 * (b % M256)) :
  ∃ g y : Nat, guessN (limb r 3) (limb r 2) (limb b 3) = (g : Int) ∧ g < 18446744073709551616 ∧ y ≤ 2 ∧ 0 < limb b 3 ∧
   IntKind.u64.wrap (limb r 3 - IntKind.u64.wrap (((b % M256 * g / M256 : Nat) : Int) + if join (X : Int) (limb r 0) (limb r 1) (limb r 2) % M256 < b % M256 * g % M256 then 1 else 0)) = ((digAt r (X : Int) b y / M256 % 18446744073709551616 : Nat) : Int) ∧
   (join (X : Int) (limb r 0) (limb r 1) (limb r 2) % M256 + M256 - b % M256 * g % M256) % M256 = digAt r (X : Int) b y % M256 ∧
   (∀ e, e ≤ 2 → e ≠ 0 → IntKind.u64.wrap (((digAt r (X : Int) b e / M256 % 18446744073709551616 : Nat) : Int) + ((digAt r (X : Int) b e % M256 + b % M256) / M256 : Nat)) = ((digAt r (X : Int) b (e - 1) / M256 % 18446744073709551616 : Nat) : Int) ∧ digAt r (X : Int) b e + b % M256 = digAt r (X : Int) b (e - 1) ∧ digAt r (X : Int) b e / M256 % 18446744073709551616 ≠ 0) ∧
   digAt r (X : Int) b 0 / M256 % 18446744073709551616 = 0 ∧ digAt r (X : Int) b 0 % M256 = digR r (X : Int) % (b % M256) := by
 obtain ⟨r0, h0, b0⟩ := limb_is r 0
 obtain ⟨r1, h1, b1⟩ := limb_is r 1
 obtain ⟨r2, h2, b2⟩ := limb_is r 2
 obtain ⟨r3, h3, b3⟩ := limb_is r 3
 obtain ⟨y0, k0, c0⟩ := limb_is b 0
 obtain ⟨y1, k1, c1⟩ := limb_is b 1
 obtain ⟨y2, k2, c2⟩ := limb_is b 2
 obtain ⟨y3, k3, c3⟩ := limb_is b 3
 have hA := horner_is r r0 r1 r2 r3 h0 h1 h2 h3
 have hB := horner_is b y0 y1 y2 y3 k0 k1 k2 k3
 have hBM : b % M256 < M256 := Nat.mod_lt _ (by rw [M256_eq]; decide)
 have hT : ∀ e, digAt r (X : Int) b e = M256 * 18446744073709551616 + digR r (X : Int) % (b % M256) - e * (b % M256) := fun e => rfl
 have hR : digR r (X : Int) = r % M256 * 18446744073709551616 + X := by unfold digR; rw [Int.toNat_natCast]
 have hJ : join (X : Int) (limb r 0) (limb r 1) (limb r 2) % M256 = ((r2 * 18446744073709551616 + r1) * 18446744073709551616 + r0) * 18446744073709551616 + X := by
  rw [h0, h1, h2, join_nat, M_val]
  omega
 rw [h0, h1, h2] at hJ
 rw [h0, h1, h2, h3, k3, guess_nat, hJ]
 rw [M_val] at hA hB hBM hT hR hrb hbt
 rw [M_val]
 generalize digR r (X : Int) = R at *
 rw [hA] at hR hrb
 obtain ⟨n1, n2, n3, n4, n5, n6, n7, n8⟩ := kn_all b0 b1 b2 c0 c1 c2 bX hB hR hrb hbt
 obtain ⟨x2, E2⟩ : ∃ v, v = b % 115792089237316195423570985008687907853269984665640564039457584007913129639936 := ⟨_, rfl⟩
 rw [← E2] at hB hBM hT hrb hbt n1 n5 ⊢
 obtain ⟨q1, q2, q3⟩ := knuth (W := 18446744073709551616) (K := 6277101735386680763835789423207666416102355444464034512896) (r3 := r3) (r2 := r2) (rr := (r1 * 18446744073709551616 + r0) * 18446744073709551616 + X) (b3 := y3) (bl := (y2 * 18446744073709551616 + y1) * 18446744073709551616 + y0) (B := x2) (R := R) (g := gN r3 r2 y3) n1 n2 n3 n4 n5 n6 b2 rfl
 generalize gN r3 r2 y3 = g at *
 have hBp : 0 < x2 := by clear hT; omega
 have dm := Nat.div_add_mod R x2
 have ml := Nat.mod_lt R hBp
 obtain ⟨x3, E3⟩ : ∃ v, v = R / x2 := ⟨_, rfl⟩
 rw [← E3] at dm q1 q2
 have D3 := Nat.div_add_mod (x2 * g) 115792089237316195423570985008687907853269984665640564039457584007913129639936
 have L3 := Nat.mod_lt (x2 * g) (show 0 < 115792089237316195423570985008687907853269984665640564039457584007913129639936 by decide)
 have H6 : x2 * g / 115792089237316195423570985008687907853269984665640564039457584007913129639936 < 18446744073709551616 := by
  rw [Nat.div_lt_iff_lt_mul (by decide), Nat.mul_comm 18446744073709551616]
  exact Nat.mul_lt_mul'' hBM q3
 have hG : x2 * g = x2 * x3 + (g - x3) * x2 := by
  rw [Nat.mul_comm (g - x3), ← Nat.mul_add]
  exact congrArg (x2 * ·) (by clear hT; omega)
 have hY : (g - x3) * x2 ≤ 2 * 115792089237316195423570985008687907853269984665640564039457584007913129639936 := Nat.mul_le_mul (by clear hT; omega) (Nat.le_of_lt hBM)
 obtain ⟨t1, t2⟩ := top_of (r3 := r3) (x6 := ((r2 * 18446744073709551616 + r1) * 18446744073709551616 + r0) * 18446744073709551616 + X) (x7 := x2 * g % 115792089237316195423570985008687907853269984665640564039457584007913129639936) (hi := x2 * g / 115792089237316195423570985008687907853269984665640564039457584007913129639936) (mrem := R % x2) (Y := (g - x3) * x2) (P := x2 * x3) (G := x2 * g) (by rw [dm, n7]) hG D3 L3 n8 H6 hY (Nat.lt_trans ml hBM) b3
 have step : ∀ e, e ≤ 2 → e ≠ 0 → IntKind.u64.wrap (((digAt r (X : Int) b e / 115792089237316195423570985008687907853269984665640564039457584007913129639936 % 18446744073709551616 : Nat) : Int) + ((digAt r (X : Int) b e % 115792089237316195423570985008687907853269984665640564039457584007913129639936 + x2) / 115792089237316195423570985008687907853269984665640564039457584007913129639936 : Nat)) = ((digAt r (X : Int) b (e - 1) / 115792089237316195423570985008687907853269984665640564039457584007913129639936 % 18446744073709551616 : Nat) : Int) ∧ digAt r (X : Int) b e + x2 = digAt r (X : Int) b (e - 1) ∧ digAt r (X : Int) b e / 115792089237316195423570985008687907853269984665640564039457584007913129639936 % 18446744073709551616 ≠ 0 := by
  intro e he h0
  have := top_step (mrem := R % x2) (B := x2) (e := e) ml hBM he h0
  rw [← hT, ← hT] at this
  exact this
 obtain ⟨u1, u2⟩ := top_zero (mrem := R % x2) (B := x2) ml hBM
 rw [← hT] at u1 u2 t1 t2
 have y3p : 0 < y3 := by clear hT; omega
 have g1 : g - x3 ≤ 2 := by clear hT; omega
 exact ⟨g, g - x3, rfl, q3, g1, Int.ofNat_lt.2 y3p, t1, t2, step, u1, u2⟩
theorem wrap_sub (a v : Int) : IntKind.u64.wrap (a - IntKind.u64.wrap v) = IntKind.u64.wrap (a - v) := by
 simp only [wrap_mod]
 omega
theorem carry_one {v x M : Nat} (hv : v < M) (hx : x < M) : (M ≤ v + x → (v + x) / M = 1) ∧ (¬ M ≤ v + x → (v + x) / M = 0) := by
 refine ⟨fun h => ?_, fun h => Nat.div_eq_of_lt (by omega)⟩
 rw [show v + x = (v + x - M) + M by omega, Nat.add_div_right _ (by omega), Nat.div_eq_of_lt (by omega)]
theorem ok_bring : ∀ (r : Nat) (x : Int) (b : Nat), Ok (digC r x b) → Owes Try.prog cxBring [(5, .inv (invBring r x b))] 100 Try.f89 [sU r, sI .u64 x, sU b] (bringG r x b) := by
 intro r x b hc
 obtain ⟨hx, hrb, hbt, _⟩ := hc
 rw [vc_bring]
 obtain ⟨X, rfl⟩ := Int.eq_ofNat_of_zero_le hx.1
 have bX : X < 18446744073709551616 := Int.ofNat_lt.1 hx.2
 have hM : 0 < M256 := by rw [M256_eq]; decide
 have hbM := Nat.mod_lt b hM
 obtain ⟨g, y, eg, gw, hy, hb3, t1, t2, step, u1, u2⟩ := dig_core r X b bX hrb hbt
 rw [eg]
 intro x1 x2 x3 x4 x5 x6
 have E1 : x1 = (g : Int) := rfl
 have T : x1.toNat = g := by rw [E1]; exact Int.toNat_natCast _
 have E4 : x4 = b % M256 * g := by simp only [x4, x3, T]
 have E6 : x6 = b % M256 * g % M256 := by simp only [x6, E4]
 rw [wrap_sub, ← E6, ← E4] at t1
 rw [← E6] at t2
 have hl := fun n i => (⟨limb_nonneg n i, limb_lt n i⟩ : (0 : Int) ≤ limb n i ∧ limb n i < 18446744073709551616)
 have hbB : ∀ v : Nat, (v + b) % M256 = (v + b % M256) % M256 := fun v => by rw [Nat.add_mod v b, Nat.add_mod v (b % M256), Nat.mod_mod]
 have hrem : digR r (X : Int) % (b % M256) < M256 := Nat.lt_trans (Nat.mod_lt _ (by omega)) hbM
 refine ⟨hl r 3, hl r 2, hl b 3, hb3, hx, hl r 0, hl r 1, hl r 2, by rw [E1]; exact word_nat gw, fun _ => rfl, y, hy, rfl, rfl, rfl, t1, t2, rfl, rfl, rfl, rfl, fun e he => ⟨fun c => ?_, fun c => ?_⟩⟩
 ·have he0 : e ≠ 0 := by
   rintro rfl
   rw [u1] at c
   exact absurd c (by decide)
  obtain ⟨s1, s2, s3⟩ := step e he he0
  obtain ⟨k1, k2⟩ := carry_one (Nat.mod_lt (digAt r (X : Int) b e) hM) hbM
  have hs : (digAt r (X : Int) b e + b) % M256 = digAt r (X : Int) b (e - 1) % M256 := by rw [hbB, s2]
  refine ⟨fun h => ⟨e - 1, by omega, rfl, rfl, rfl, ?_, hs, rfl, rfl, rfl, rfl, by omega⟩, fun h => ⟨e - 1, by omega, rfl, rfl, rfl, ?_, hs, rfl, rfl, rfl, rfl, by omega⟩⟩
  ·rw [k1 (of_decide_eq_true h)] at s1
   exact s1
  ·rw [k2 (of_decide_eq_false h), Int.natCast_zero, Int.add_zero, wrap_id (word_nat (Nat.mod_lt _ (by decide)))] at s1
   exact s1
 ·have he0 : e = 0 := by
   refine Classical.byContradiction fun h => ?_
   obtain ⟨s1, s2, s3⟩ := step e he h
   rw [bne_eq_false_iff_eq] at c
   exact s3 (Int.ofNat.inj c)
  subst he0
  exact ⟨by rw [u2, Nat.mod_eq_of_lt hrem], trivial⟩
theorem less_step (a P o : Int) (ha : 0 ≤ a ∧ a < 18446744073709551616) (hP : 0 ≤ P ∧ P ≤ 340282366920938463426481119284349108225) (ho : 0 ≤ o ∧ o < 18446744073709551616) :
  (0 ≤ IntKind.u64.wrap (IntKind.u64.wrap (P / 18446744073709551616 + (P % 18446744073709551616 + o + 0) / 18446744073709551616) + -((a - (P % 18446744073709551616 + o + 0) % 18446744073709551616 - 0) / 18446744073709551616)) ∧ IntKind.u64.wrap (IntKind.u64.wrap (P / 18446744073709551616 + (P % 18446744073709551616 + o + 0) / 18446744073709551616) + -((a - (P % 18446744073709551616 + o + 0) % 18446744073709551616 - 0) / 18446744073709551616)) < 18446744073709551616) ∧
  a + 18446744073709551616 * IntKind.u64.wrap (IntKind.u64.wrap (P / 18446744073709551616 + (P % 18446744073709551616 + o + 0) / 18446744073709551616) + -((a - (P % 18446744073709551616 + o + 0) % 18446744073709551616 - 0) / 18446744073709551616)) = (a - (P % 18446744073709551616 + o + 0) % 18446744073709551616 - 0) % 18446744073709551616 + P + o ∧
  (0 ≤ (a - (P % 18446744073709551616 + o + 0) % 18446744073709551616 - 0) % 18446744073709551616 ∧ (a - (P % 18446744073709551616 + o + 0) % 18446744073709551616 - 0) % 18446744073709551616 < 18446744073709551616) ∧ 0 ≤ P % 18446744073709551616 ∧ (0 ≤ (P % 18446744073709551616 + o + 0) % 18446744073709551616 ∧ (P % 18446744073709551616 + o + 0) % 18446744073709551616 < 18446744073709551616) := by
 simp only [wrap_mod]
 refine ⟨⟨?_, ?_⟩, ?_, ⟨?_, ?_⟩, ?_, ?_, ?_⟩ <;> omega
theorem prod_bound {b q : Int} (hb : 0 ≤ b ∧ b < 18446744073709551616) (hq : 0 ≤ q ∧ q < 18446744073709551616) : 0 ≤ b * q ∧ b * q ≤ 340282366920938463426481119284349108225 := by
 obtain ⟨b, rfl⟩ := Int.eq_ofNat_of_zero_le hb.1
 obtain ⟨q, rfl⟩ := Int.eq_ofNat_of_zero_le hq.1
 rw [← Int.natCast_mul]
 have := Nat.mul_le_mul (show b ≤ 18446744073709551615 by omega) (show q ≤ 18446744073709551615 by omega)
 omega
theorem less_sum {A G r0 r1 r2 r3 o hi lo : Nat} (h : A + 115792089237316195423570985008687907853269984665640564039457584007913129639936 * o = ((((r3 * 18446744073709551616 + r2) * 18446744073709551616 + r1) * 18446744073709551616 + r0) + G)) (hG : 115792089237316195423570985008687907853269984665640564039457584007913129639936 * hi + lo = G) (hlo : lo < 115792089237316195423570985008687907853269984665640564039457584007913129639936) (hA : A < 115792089237316195423570985008687907853269984665640564039457584007913129639936) (h0 : r0 < 18446744073709551616) (h1 : r1 < 18446744073709551616) (h2 : r2 < 18446744073709551616) (h3 : r3 < 18446744073709551616) :
  (((r3 * 18446744073709551616 + r2) * 18446744073709551616 + r1) * 18446744073709551616 + r0) % 115792089237316195423570985008687907853269984665640564039457584007913129639936 = (A + 115792089237316195423570985008687907853269984665640564039457584007913129639936 - lo) % 115792089237316195423570985008687907853269984665640564039457584007913129639936 ∧ (o : Int) = (hi : Int) + if A < lo then 1 else 0 := by
 split
 ·refine ⟨?_, ?_⟩ <;> omega
 ·refine ⟨?_, ?_⟩ <;> omega
theorem ok_fless : ∀ (a : Nat) (q : Int) (b : Nat), Ok (flessC a q b) → Owes Try.prog cxFless [] 100 Try.f99 [sU a, sI .u64 q, sU b] (flessG a q b) := by
 intro a q b hc
 obtain ⟨hq, _⟩ := hc
 rw [vc_fless]
 have hl := fun n i => (⟨limb_nonneg n i, limb_lt n i⟩ : (0 : Int) ≤ limb n i ∧ limb n i < 18446744073709551616)
 have z : (0 : Int) ≤ 0 ∧ (0 : Int) < 18446744073709551616 := by decide
 have z1 : (0 : Int) ≤ 0 ∧ (0 : Int) ≤ 1 := by decide
 obtain ⟨o0, s0, r0, p0, l0⟩ := less_step (limb a 0) (limb b 0 * q) 0 (hl a 0) (prod_bound (hl b 0) hq) z
 intro x1 x2 x3 x4 x5 x6 x7 x8
 have O0 : 0 ≤ x8 ∧ x8 < 18446744073709551616 := o0
 have S0 : limb a 0 + 18446744073709551616 * x8 = x7 % 18446744073709551616 + x1 + 0 := s0
 have R0 : 0 ≤ x7 % 18446744073709551616 ∧ x7 % 18446744073709551616 < 18446744073709551616 := r0
 have L0 : 0 ≤ x4 ∧ x4 < 18446744073709551616 := l0
 obtain ⟨o1, s1, r1, p1, l1⟩ := less_step (limb a 1) (limb b 1 * q) x8 (hl a 1) (prod_bound (hl b 1) hq) O0
 intro x9 x10 x11 x12 x13 x14
 have O1 : 0 ≤ x14 ∧ x14 < 18446744073709551616 := o1
 have S1 : limb a 1 + 18446744073709551616 * x14 = x13 % 18446744073709551616 + x5 + x8 := s1
 have R1 : 0 ≤ x13 % 18446744073709551616 ∧ x13 % 18446744073709551616 < 18446744073709551616 := r1
 have L1 : 0 ≤ x10 ∧ x10 < 18446744073709551616 := l1
 obtain ⟨o2, s2, r2, p2, l2⟩ := less_step (limb a 2) (limb b 2 * q) x14 (hl a 2) (prod_bound (hl b 2) hq) O1
 intro x15 x16 x17 x18 x19 x20
 have O2 : 0 ≤ x20 ∧ x20 < 18446744073709551616 := o2
 have S2 : limb a 2 + 18446744073709551616 * x20 = x19 % 18446744073709551616 + x11 + x14 := s2
 have R2 : 0 ≤ x19 % 18446744073709551616 ∧ x19 % 18446744073709551616 < 18446744073709551616 := r2
 have L2 : 0 ≤ x16 ∧ x16 < 18446744073709551616 := l2
 obtain ⟨o3, s3, r3, p3, l3⟩ := less_step (limb a 3) (limb b 3 * q) x20 (hl a 3) (prod_bound (hl b 3) hq) O2
 intro x21 x22 x23 x24 x25 x26 x27 x28 x29 x30
 have L3 : 0 ≤ x22 ∧ x22 < 18446744073709551616 := l3
 have R3 : 0 ≤ x27 ∧ x27 < 18446744073709551616 := r3
 have S3 : limb a 3 + 18446744073709551616 * IntKind.u64.wrap (IntKind.u64.wrap (x17 / 18446744073709551616 + x21 / 18446744073709551616) + -(x26 / 18446744073709551616)) = x27 + x17 + x20 := s3
 have O3 : 0 ≤ IntKind.u64.wrap (IntKind.u64.wrap (x17 / 18446744073709551616 + x21 / 18446744073709551616) + -(x26 / 18446744073709551616)) ∧ IntKind.u64.wrap (IntKind.u64.wrap (x17 / 18446744073709551616 + x21 / 18446744073709551616) + -(x26 / 18446744073709551616)) < 18446744073709551616 := o3
 have R0' : 0 ≤ x23 ∧ x23 < 18446744073709551616 := R0
 have R1' : 0 ≤ x24 ∧ x24 < 18446744073709551616 := R1
 have R2' : 0 ≤ x25 ∧ x25 < 18446744073709551616 := R2
 have S0' : limb a 0 + 18446744073709551616 * x8 = x23 + x1 + 0 := S0
 have S1' : limb a 1 + 18446744073709551616 * x14 = x24 + x5 + x8 := S1
 have S2' : limb a 2 + 18446744073709551616 * x20 = x25 + x11 + x14 := S2
 clear o0 s0 r0 l0 o1 s1 r1 l1 o2 s2 r2 l2 o3 s3 r3 l3 R0 R1 R2 S0 S1 S2
 have M : (join x23 x24 x25 x27 % M256 = (x28 + M256 - x30) % M256) ∧ IntKind.u64.wrap (IntKind.u64.wrap (x17 / 18446744073709551616 + x21 / 18446744073709551616) + -(x26 / 18446744073709551616)) = ((x29 / M256 : Nat) : Int) + if x28 < x30 then (1 : Int) else (0 : Int) := by
  have e1 : x1 = limb b 0 * q := rfl
  have e5 : x5 = limb b 1 * q := rfl
  have e11 : x11 = limb b 2 * q := rfl
  have e17 : x17 = limb b 3 * q := rfl
  have e28 : x28 = a % M256 := rfl
  have e29 : x29 = b % M256 * q.toNat := rfl
  have e30 : x30 = x29 % M256 := rfl
  generalize IntKind.u64.wrap (IntKind.u64.wrap (x17 / 18446744073709551616 + x21 / 18446744073709551616) + -(x26 / 18446744073709551616)) = o at *
  clear_value x1 x5 x8 x11 x14 x17 x20 x23 x24 x25 x27 x28 x29 x30
  obtain ⟨Q, rfl⟩ := Int.eq_ofNat_of_zero_le hq.1
  obtain ⟨w0, rfl⟩ := Int.eq_ofNat_of_zero_le R0'.1
  obtain ⟨w1, rfl⟩ := Int.eq_ofNat_of_zero_le R1'.1
  obtain ⟨w2, rfl⟩ := Int.eq_ofNat_of_zero_le R2'.1
  obtain ⟨w3, rfl⟩ := Int.eq_ofNat_of_zero_le R3.1
  obtain ⟨ov, rfl⟩ := Int.eq_ofNat_of_zero_le O3.1
  obtain ⟨a0, h0, b0⟩ := limb_is a 0
  obtain ⟨a1, h1, b1⟩ := limb_is a 1
  obtain ⟨a2, h2, b2⟩ := limb_is a 2
  obtain ⟨a3, h3, b3⟩ := limb_is a 3
  obtain ⟨y0, k0, c0⟩ := limb_is b 0
  obtain ⟨y1, k1, c1⟩ := limb_is b 1
  obtain ⟨y2, k2, c2⟩ := limb_is b 2
  obtain ⟨y3, k3, c3⟩ := limb_is b 3
  have hA := horner_is a a0 a1 a2 a3 h0 h1 h2 h3
  have hB := horner_is b y0 y1 y2 y3 k0 k1 k2 k3
  rw [Int.toNat_natCast, hB] at e29
  have e29' : x29 = ((y3 * Q * 18446744073709551616 + y2 * Q) * 18446744073709551616 + y1 * Q) * 18446744073709551616 + y0 * Q := by
   have k1 : ∀ X Y : Nat, (X * 18446744073709551616 + Y) * Q = X * Q * 18446744073709551616 + Y * Q := fun X Y => by rw [Nat.add_mul, Nat.mul_right_comm]
   rw [e29, k1, k1, k1]
  rw [h0] at S0'
  rw [h1] at S1'
  rw [h2] at S2'
  rw [h3] at S3
  rw [k0, ← Int.natCast_mul] at e1
  rw [k1, ← Int.natCast_mul] at e5
  rw [k2, ← Int.natCast_mul] at e11
  rw [k3, ← Int.natCast_mul] at e17
  have hMl : x29 % M256 < M256 := Nat.mod_lt _ (by rw [M256_eq]; decide)
  have hMd := Nat.div_add_mod x29 M256
  have hAl : x28 < M256 := by rw [e28]; exact Nat.mod_lt _ (by rw [M256_eq]; decide)
  rw [hA] at e28
  rw [← e30] at hMl hMd
  rw [join_nat]
  rw [M_val] at hMl hMd hAl ⊢
  refine less_sum ?_ hMd hMl hAl (Int.ofNat_lt.1 R0'.2) (Int.ofNat_lt.1 R1'.2) (Int.ofNat_lt.1 R2'.2) (Int.ofNat_lt.1 R3.2)
  rw [e28, e29']
  clear e28 e29 e29' e30 hMl hMd hAl hA hB hl O0 O1 O2 O3 L0 L1 L2 L3 p0 p1 p2 p3 R0' R1' R2' R3
  generalize y0 * Q = t0 at *
  generalize y1 * Q = t1 at *
  generalize y2 * Q = t2 at *
  generalize y3 * Q = t3 at *
  exact Nat.le_antisymm (by omega) (by omega)
 exact ⟨hl b 0, hq, p0, z.1, z1, hl a 0, L0, z1, hl b 1, hq, p1, O0.1, z1, hl a 1, L1, z1, hl b 2, hq, p2, O1.1, z1, hl a 2, L2, z1, hl b 3, hq, p3, O2.1, z1, hl a 3, L3, z1, ⟨R0', R1', R2', R3, M.1, trivial⟩, M.2⟩
theorem card_fless : FnOK Try.prog 99 (specUWU flessC flessG) :=
 FnOK_UWU (CxOK_cons card_Mul64 (CxOK_cons card_Add64 (CxOK_cons card_Sub64 CxOK_nil))) (iv := fun _ _ _ => []) (N := 100) Try.func99 (by kernel_rfl) (by kernel_rfl) (fun _ _ _ => bnd_two (bnd_U _) (bnd_I _ _)) ok_fless
theorem card_bring : FnOK Try.prog 89 (specUWU digC bringG) :=
 FnOK_UWU (CxOK_cons card_fguess (CxOK_cons card_fless (CxOK_cons card_Add CxOK_nil))) (iv := fun r x b => [(5, .inv (invBring r x b))]) (N := 100) Try.func89 (by kernel_rfl) (by kernel_rfl) (fun _ _ _ => bnd_one (bnd_U _)) ok_bring
theorem card_rest : FnOK Try.prog 81 (specUUU restC restG) :=
 FnOK_UUU (CxOK_cons card_Mul (CxOK_cons card_bring CxOK_nil)) (iv := fun _ _ _ => []) (N := 100) Try.func81 (by kernel_rfl) (by kernel_rfl) (fun _ _ _ => bnd_one (bnd_U _)) ok_rest
theorem ok_bit : ∀ n : Int, Ok (bitC n) → Owes Try.prog Cx.none [] 100 Try.f83 [sI .i64 n] (bitG n) := by
 intro n hc
 obtain ⟨hn, _⟩ := hc
 rw [vc_bit]
 obtain ⟨p, t, hnp, ht, hp, y1, y2, y3, y4⟩ := n_parts (n := n) ⟨hn.1, by omega⟩
 have hp3 : p ≤ 3 := by omega
 have ht63 : 2 ^ t < 18446744073709551616 := Nat.lt_of_le_of_lt (Nat.pow_le_pow_right (by decide) ht) (by decide)
 intro x1 x2 x3 x4 x5 x6 x7
 have E1 : x1 = (p : Int) := y1
 have E2 : x2 = p := by simp only [x2, E1]; exact Int.toNat_natCast _
 have E3 : x3 = ((2 ^ t : Nat) : Int) := by
  simp only [x3, y2]
  rw [two_min t (by omega), Int.one_mul]
  exact wrap_id (word_nat ht63)
 have w := word_nat ht63
 rw [y2, hnp, Int.toNat_natCast, two_split]
 have hE : ∀ i : Nat, (if i = x2 then x3 else (0 : Int)) = ((if i = p then 2 ^ t else 0 : Nat) : Int) := fun i => by
  rw [E2, E3]
  split <;> rfl
 have hb : ∀ i : Nat, (0 : Int) ≤ ((if i = p then 2 ^ t else 0 : Nat) : Int) ∧ ((if i = p then 2 ^ t else 0 : Nat) : Int) < 18446744073709551616 := fun i => word_nat (by split; exact ht63; decide)
 have E4 : x4 = ((if 0 = p then 2 ^ t else 0 : Nat) : Int) := hE 0
 have E5 : x5 = ((if 1 = p then 2 ^ t else 0 : Nat) : Int) := hE 1
 have E6 : x6 = ((if 2 = p then 2 ^ t else 0 : Nat) : Int) := hE 2
 have E7 : x7 = ((if 3 = p then 2 ^ t else 0 : Nat) : Int) := hE 3
 rw [E4, E5, E6, E7, E1, join_nat]
 refine ⟨nn _, ⟨nn _, by omega⟩, ⟨nn _, by omega⟩, hb 0, hb 1, hb 2, hb 3, ?_, trivial⟩
 refine congrArg (· % M256) ?_
 generalize 2 ^ t = d at *
 rcases (show p = 0 ∨ p = 1 ∨ p = 2 ∨ p = 3 by omega) with rfl | rfl | rfl | rfl
 ·simp
 ·simp
 ·simp [Nat.mul_assoc]
 ·simp [Nat.mul_assoc]
theorem card_bit : FnOK Try.prog 83 (specI bitC bitG) :=
 FnOK_I CxOK_nil (iv := fun _ => []) (N := 100) Try.func83 (by kernel_rfl) (by kernel_rfl) (fun _ => bnd_one (bnd_U _)) ok_bit
theorem prod_moved {a b m D E M : Nat} (hDE : D * E = M) (hM0 : 0 < M) (hEM : E < M) (hm : 0 < m) (hmD : m * D < M) : a * (b * D) % (m * D) % M * (E % M) / M % M = a * b % m % M := by
 have h1 : a * (b * D) % (m * D) = a * b % m * D := by rw [← Nat.mul_assoc, Nat.mul_mod_mul_right]
 have hr := Nat.mod_lt (a * b) hm
 have h2 : a * b % m * D < M := Nat.lt_of_le_of_lt (Nat.mul_le_mul_right D (Nat.le_of_lt hr)) hmD
 rw [h1, Nat.mod_eq_of_lt h2, Nat.mod_eq_of_lt hEM, Nat.mul_assoc, hDE, Nat.mul_div_cancel _ hM0]
theorem ok_product : ∀ a b m : Nat, Ok (prodC a b m) → Owes Try.prog cxProd [] 100 Try.f69 [sU a, sU b, sU m] (prodG a b m) := by
 intro a b m hc
 obtain ⟨ha, hb, _⟩ := hc
 rw [vc_product]
 have hMp : 0 < M256 := by rw [M256_eq]; decide
 have hM := Nat.mod_lt m hMp
 have hm0 : 0 < m % M256 := by omega
 have hl := bitsN_le (n := m % M256) (k := 256) hM
 obtain ⟨hb1, hb2⟩ := bitsN_two (m % M256) (by omega)
 have hl0 : 1 ≤ bitsN (m % M256) := by
  refine Nat.pos_of_ne_zero fun e => ?_
  rw [e] at hb1
  omega
 obtain ⟨s, hs⟩ : ∃ s, s = 256 - bitsN (m % M256) := ⟨_, rfl⟩
 have hs' : bitsN (m % M256) = 256 - s := by omega
 have hs2 : s ≤ 255 := by omega
 have hDE : 2 ^ s * 2 ^ (256 - s) = M256 := by rw [← Nat.pow_add, show s + (256 - s) = 256 by omega]; rfl
 have hD := Nat.two_pow_pos s
 rw [hs'] at hb1 hb2
 have hYM : m % M256 * 2 ^ s < M256 := Nat.lt_of_lt_of_eq (Nat.mul_lt_mul_of_pos_right hb1 hD) (by rw [Nat.mul_comm, hDE])
 have hYt : M256 ≤ 2 * (m % M256 * 2 ^ s) := by
  have := Nat.mul_le_mul_right (2 ^ s) hb2
  rw [Nat.mul_comm (2 ^ (256 - s)), hDE, Nat.mul_assoc] at this
  exact this
 intro x1 x2 x3 x4 x5 x6 x7 x8 x9
 have E1 : x1 = m % M256 := rfl
 have E2 : x2 = (s : Int) := by simp only [x2, x1, ← hs]
 have E3 : x3 = a % M256 := rfl
 have E4 : x4 = b % M256 := rfl
 have E5 : x5 = x3 * x4 % x1 % M256 := rfl
 have E6 : x6 = 2 ^ s := by simp only [x6, E2, Int.toNat_natCast]
 have E7 : x7 = m % M256 * 2 ^ s := by simp only [x7, E6]; exact (mod_mul_M m _).trans (Nat.mod_eq_of_lt hYM)
 have hbD : b % M256 * 2 ^ s < m % M256 * 2 ^ s := Nat.mul_lt_mul_of_pos_right hb hD
 have E8 : x8 = b % M256 * 2 ^ s := by simp only [x8, E6]; exact (mod_mul_M b _).trans (Nat.mod_eq_of_lt (Nat.lt_trans hbD hYM))
 have E9 : x9 = ((256 - s : Nat) : Int) := by
  simp only [x9, E2]
  rw [IntWalk.i64_in _ (by omega)]
  omega
 clear_value x9 x8 x7 x6 x5 x4 x3 x2 x1
 refine ⟨fun h => ?_, fun h => ?_⟩
 ·have h0 : s = 0 := by
   have h := beq_iff_eq.1 h
   omega
  rw [h0, Nat.pow_zero, Nat.mul_one] at hYt
  exact ⟨by rw [E3, E1]; exact ha, by rw [E4, E1]; exact hb, by rw [E1]; exact hYt, rfl, trivial⟩
 ·have h0 : 1 ≤ s := by
   have h := beq_eq_false_iff_ne.1 h
   omega
  have hEM : 2 ^ (256 - s) < M256 := by
   rw [M_pow]
   exact Nat.pow_lt_pow_right (by decide) (by omega)
  refine ⟨by rw [E2]; omega, by rw [E2]; omega, ?_, by rw [E8, E7]; exact hbD, by rw [E7]; exact hYt, by rw [E9]; omega, ?_, trivial⟩
  ·rw [E3, E7]
   exact Nat.lt_of_lt_of_le ha (Nat.le_mul_of_pos_right _ hD)
  ·rw [E9, Int.toNat_natCast, E8, E7, E5, E3, E4, E1]
   exact prod_moved hDE hMp hEM hm0 hYM
theorem card_product : FnOK Try.prog 69 (specUUU prodC prodG) :=
 FnOK_UUU (CxOK_cons card_fnoughts (CxOK_cons card_rest (CxOK_cons card_bit (CxOK_cons card_Mul CxOK_nil)))) (iv := fun _ _ _ => []) (N := 100) Try.func69 (by kernel_rfl) (by kernel_rfl) (fun _ _ _ => bnd_one (bnd_U _)) ok_product
end Go.Proofs.Yteimeidpcgebkaa
end

section
namespace Go.Proofs.Yteimeidpcgebkaa
open Go.Sx
theorem cmp_ge {a m : Nat} : cmpN a m ≥ 0 ↔ m % M256 ≤ a % M256 := by
 unfold cmpN
 rcases Nat.lt_or_ge (a % M256) (m % M256) with c | c
 ·rw [if_pos c]; omega
 ·rw [if_neg (by omega)]
  refine ⟨fun _ => c, fun _ => ?_⟩
  split <;> decide
theorem f_all {a b m r : Nat} :
  (m % M256 = 0 → 0 = (if fE a b m = 0 then r else 0) % M256 ∧ 7 = fE a b m) ∧
  (m % M256 ≠ 0 → (m % M256 ≤ a % M256 ∨ m % M256 ≤ b % M256) → 0 = (if fE a b m = 0 then r else 0) % M256 ∧ 6 = fE a b m) ∧
  (m % M256 ≠ 0 → a % M256 < m % M256 → b % M256 < m % M256 → r % M256 = (if fE a b m = 0 then r else 0) % M256 ∧ 0 = fE a b m) := by
 refine ⟨fun h => ?_, fun h h' => ?_, fun h h1 h2 => ?_⟩
 ·have e : fE a b m = 7 := by unfold fE; rw [if_pos h]
  rw [e, if_neg (by decide)]
  exact ⟨(Nat.zero_mod _).symm, rfl⟩
 ·have e : fE a b m = 6 := by unfold fE; rw [if_neg h, if_neg (by omega)]
  rw [e, if_neg (by decide)]
  exact ⟨(Nat.zero_mod _).symm, rfl⟩
 ·have e : fE a b m = 0 := by unfold fE; rw [if_neg h, if_pos ⟨h1, h2⟩]
  rw [e, if_pos rfl]
  exact ⟨rfl, rfl⟩
theorem ok_fAdd : ∀ a b m : Nat, Ok (noC a b m) → Owes Try.prog cxFadd [] 100 Try.f58 [sU a, sU b, sU m] (faddG a b m) := by
 intro a b m _
 rw [vc_fAdd]
 intro x1 x2 x3 x4 x5
 obtain ⟨f1, f2, f3⟩ := f_all (a := a) (b := b) (m := m) (r := (a % M256 + b % M256) % (m % M256))
 refine ⟨fun h => ?_, fun h => ⟨fun h1 => ?_, fun h1 => ⟨fun h2 => ?_, fun h2 => ?_⟩⟩⟩
 ·obtain ⟨p, q⟩ := f1 (beq_iff_eq.1 h)
  exact ⟨⟨p, trivial⟩, q⟩
 ·obtain ⟨p, q⟩ := f2 (beq_eq_false_iff_ne.1 h) (.inl (cmp_ge.1 (of_decide_eq_true h1)))
  exact ⟨⟨p, trivial⟩, q⟩
 ·obtain ⟨p, q⟩ := f2 (beq_eq_false_iff_ne.1 h) (.inr (cmp_ge.1 (of_decide_eq_true h2)))
  exact ⟨⟨p, trivial⟩, q⟩
 ·have l1 : a % M256 < m % M256 := Nat.lt_of_not_le fun c => of_decide_eq_false h1 (cmp_ge.2 c)
  have l2 : b % M256 < m % M256 := Nat.lt_of_not_le fun c => of_decide_eq_false h2 (cmp_ge.2 c)
  obtain ⟨p, q⟩ := f3 (beq_eq_false_iff_ne.1 h) l1 l2
  exact ⟨l1, l2, ⟨p, trivial⟩, q⟩
theorem card_fAdd : FnOK Try.prog 58 (specUUU noC faddG) :=
 FnOK_UUU (CxOK_cons card_Cmp (CxOK_cons card_sum CxOK_nil)) (iv := fun _ _ _ => []) (N := 100) Try.func58 (by kernel_rfl) (by kernel_rfl) (fun _ _ _ => bnd_two (bnd_U _) (bnd_I _ _)) ok_fAdd
theorem ok_fSub : ∀ a b m : Nat, Ok (noC a b m) → Owes Try.prog cxFsub [] 100 Try.f49 [sU a, sU b, sU m] (fsubG a b m) := by
 intro a b m _
 rw [vc_fSub]
 intro x1 x2 x3 x4 x5
 obtain ⟨f1, f2, f3⟩ := f_all (a := a) (b := b) (m := m) (r := (a % M256 + m % M256 - b % M256) % (m % M256))
 refine ⟨fun h => ?_, fun h => ⟨fun h1 => ?_, fun h1 => ⟨fun h2 => ?_, fun h2 => ?_⟩⟩⟩
 ·obtain ⟨p, q⟩ := f1 (beq_iff_eq.1 h)
  exact ⟨⟨p, trivial⟩, q⟩
 ·obtain ⟨p, q⟩ := f2 (beq_eq_false_iff_ne.1 h) (.inl (cmp_ge.1 (of_decide_eq_true h1)))
  exact ⟨⟨p, trivial⟩, q⟩
 ·obtain ⟨p, q⟩ := f2 (beq_eq_false_iff_ne.1 h) (.inr (cmp_ge.1 (of_decide_eq_true h2)))
  exact ⟨⟨p, trivial⟩, q⟩
 ·have l1 : a % M256 < m % M256 := Nat.lt_of_not_le fun c => of_decide_eq_false h1 (cmp_ge.2 c)
  have l2 : b % M256 < m % M256 := Nat.lt_of_not_le fun c => of_decide_eq_false h2 (cmp_ge.2 c)
  obtain ⟨p, q⟩ := f3 (beq_eq_false_iff_ne.1 h) l1 l2
  exact ⟨l1, l2, ⟨p, trivial⟩, q⟩
theorem card_fSub : FnOK Try.prog 49 (specUUU noC fsubG) :=
 FnOK_UUU (CxOK_cons card_Cmp (CxOK_cons card_difference CxOK_nil)) (iv := fun _ _ _ => []) (N := 100) Try.func49 (by kernel_rfl) (by kernel_rfl) (fun _ _ _ => bnd_two (bnd_U _) (bnd_I _ _)) ok_fSub
theorem ok_fMul : ∀ a b m : Nat, Ok (noC a b m) → Owes Try.prog cxFmul [] 100 Try.f57 [sU a, sU b, sU m] (fmulG a b m) := by
 intro a b m _
 rw [vc_fMul]
 intro x1 x2 x3 x4 x5
 obtain ⟨f1, f2, f3⟩ := f_all (a := a) (b := b) (m := m) (r := a % M256 * (b % M256) % (m % M256))
 refine ⟨fun h => ?_, fun h => ⟨fun h1 => ?_, fun h1 => ⟨fun h2 => ?_, fun h2 => ?_⟩⟩⟩
 ·obtain ⟨p, q⟩ := f1 (beq_iff_eq.1 h)
  exact ⟨⟨p, trivial⟩, q⟩
 ·obtain ⟨p, q⟩ := f2 (beq_eq_false_iff_ne.1 h) (.inl (cmp_ge.1 (of_decide_eq_true h1)))
  exact ⟨⟨p, trivial⟩, q⟩
 ·obtain ⟨p, q⟩ := f2 (beq_eq_false_iff_ne.1 h) (.inr (cmp_ge.1 (of_decide_eq_true h2)))
  exact ⟨⟨p, trivial⟩, q⟩
 ·have l1 : a % M256 < m % M256 := Nat.lt_of_not_le fun c => of_decide_eq_false h1 (cmp_ge.2 c)
  have l2 : b % M256 < m % M256 := Nat.lt_of_not_le fun c => of_decide_eq_false h2 (cmp_ge.2 c)
  obtain ⟨p, q⟩ := f3 (beq_eq_false_iff_ne.1 h) l1 l2
  exact ⟨l1, l2, ⟨p, trivial⟩, q⟩
theorem card_fMul : FnOK Try.prog 57 (specUUU noC fmulG) :=
 FnOK_UUU (CxOK_cons card_Cmp (CxOK_cons card_product CxOK_nil)) (iv := fun _ _ _ => []) (N := 100) Try.func57 (by kernel_rfl) (by kernel_rfl) (fun _ _ _ => bnd_two (bnd_U _) (bnd_I _ _)) ok_fMul
end Go.Proofs.Yteimeidpcgebkaa
end

section
namespace Go.Proofs.Yteimeidpcgebkaa
open Go.Sx
theorem and_one (v : Nat) (h : v < 18446744073709551616) : IntKind.u64.wrap ((BitVec.ofInt 64 (v : Int) &&& BitVec.ofInt 64 (1 : Int)).toNat : Int) = ((v % 2 : Nat) : Int) := by
 have b1 : (BitVec.ofInt 64 (v : Int)).toNat = v := by rw [BitVec.toNat_ofInt]; omega
 have b2 : (BitVec.ofInt 64 (1 : Int)).toNat = 1 := by decide
 rw [BitVec.toNat_and, b1, b2, Nat.and_one_is_mod, wrap_id (word_nat (by omega))]
theorem limb_bit (x j : Nat) (hj : j < 256) : (IntKind.u64.wrap ((BitVec.ofInt 64 ((limb x (j / 64)).fdiv ((2 ^ (j % 64) : Nat) : Int)) &&& BitVec.ofInt 64 (1 : Int)).toNat : Int) == 1) = (x % M256).testBit j := by
 have e : limb x (j / 64) = ((x / 2 ^ (64 * (j / 64)) % 2 ^ 64 : Nat) : Int) := rfl
 have hc : x / 2 ^ (64 * (j / 64)) % 2 ^ 64 < 18446744073709551616 := Nat.mod_lt _ (by decide)
 rw [e, fdiv_nat, and_one _ (Nat.lt_of_le_of_lt (Nat.div_le_self _ _) hc)]
 have h1 : (x / 2 ^ (64 * (j / 64)) % 2 ^ 64).testBit (j % 64) = (x % M256).testBit j := by
  rw [Nat.testBit_mod_two_pow, M_pow, Nat.testBit_mod_two_pow, Nat.testBit_div_two_pow]
  rw [decide_eq_true (Nat.mod_lt j (show 0 < 64 by decide)), decide_eq_true hj, Nat.mod_add_div]
 rw [← h1, Nat.testBit_eq_decide_div_mod_eq, Bool.eq_iff_iff, beq_iff_eq, decide_eq_true_eq]
 generalize x / 2 ^ (64 * (j / 64)) % 2 ^ 64 / 2 ^ (j % 64) = w
 omega
end Go.Proofs.Yteimeidpcgebkaa
end

section
namespace Go.Proofs.Yteimeidpcgebkaa
open Go.Sx
theorem wrN_nonneg {z : Int} (h0 : 0 ≤ z) (h : z < 2 ^ 256) : wrN z = z.toNat := by
 unfold wrN
 rw [Int.emod_eq_of_lt h0 (by rw [M256_eq]; exact h)]
theorem wrN_neg {z : Int} (h0 : z < 0) (h : -(2 ^ 256) ≤ z) : wrN z = (z + 2 ^ 256).toNat := by
 unfold wrN
 have e : z % (M256 : Int) = z + 2 ^ 256 := by
  rw [M256_eq, ← Int.add_emod_right]
  exact Int.emod_eq_of_lt (by omega) (by omega)
 rw [e]
theorem wrN_lt (z : Int) : wrN z < M256 := by
 unfold wrN
 have h1 := Int.emod_nonneg z (show (M256 : Int) ≠ 0 by rw [M256_eq]; decide)
 have h2 := Int.emod_lt_of_pos z (show 0 < (M256 : Int) by rw [M256_eq]; decide)
 omega
theorem wrN_cast (z : Int) : ((wrN z : Nat) : Int) = z % (M256 : Int) := by
 unfold wrN
 exact Int.toNat_of_nonneg (Int.emod_nonneg z (by rw [M256_eq]; decide))
theorem ok_signed : ∀ z : Int, Ok (signedC z) → Owes Try.prog Cx.none [] 100 Try.f101 [sI .i64 z] (signedG z) := by
 intro z hc
 obtain ⟨hz, _⟩ := hc
 rw [vc_signed]
 have hz' : -9223372036854775808 ≤ z ∧ z ≤ 9223372036854775807 := hz
 intro x1
 have E : x1 = if z < 0 then 18446744073709551615 else 0 := by
  simp only [x1]
  rw [wrap_mod, Int.fdiv_eq_ediv_of_nonneg _ (by decide)]
  split <;> omega
 have W : IntKind.u64.wrap z = if z < 0 then z + 18446744073709551616 else z := by
  rw [wrap_mod]
  split <;> omega
 clear_value x1
 rw [W, E]
 by_cases h : z < 0
 ·simp only [if_pos h]
  refine ⟨by omega, by omega, by omega, by omega, congrArg (· % M256) ?_, trivial⟩
  rw [wrN_neg h (by omega)]
  unfold join
  omega
 ·simp only [if_neg h]
  refine ⟨by omega, by omega, by omega, by omega, congrArg (· % M256) ?_, trivial⟩
  rw [wrN_nonneg (by omega) (by omega)]
  unfold join
  omega
theorem card_signed : FnOK Try.prog 101 (specI signedC signedG) :=
 FnOK_I CxOK_nil (iv := fun _ => []) (N := 100) Try.func101 (by kernel_rfl) (by kernel_rfl) (fun _ => bnd_one (bnd_U _)) ok_signed
theorem limb_mod (a i : Nat) (hi : i ≤ 3) : a / 2 ^ (64 * i) % 2 ^ 64 = a % M256 / 2 ^ (64 * i) % 2 ^ 64 := by
 have e : M256 = 2 ^ (64 * i) * 2 ^ (256 - 64 * i) := by rw [← Nat.pow_add, M_pow, show 64 * i + (256 - 64 * i) = 256 by omega]
 rw [e, Nat.mod_mul_right_div_self, Nat.mod_mod_of_dvd _ (Nat.pow_dvd_pow 2 (by omega))]
theorem high_word {A k t p : Nat} (ht : t ≤ 63) (hp : p + k = 2) (hA : A * 2 ^ (64 * p + t) < 2 ^ 256) :
  (A / 2 ^ (64 * (k + 1)) % 2 ^ 64 % 2 ^ (64 - t) * 2 ^ t + A / 2 ^ (64 * k) % 2 ^ 64 / 2 ^ (64 - t)) / 4 = A * 2 ^ (64 * p + t) / 2 ^ 194 := by
 have hW : 2 ^ t * 2 ^ (64 - t) = 2 ^ 64 := W_two t (by omega)
 have e1 : A / 2 ^ (64 * (k + 1)) = A / 2 ^ (64 * k) / 2 ^ 64 := by rw [Nat.mul_add, Nat.pow_add, ← Nat.div_div_eq_div_mul]
 have hlt : A / 2 ^ (64 * (k + 1)) < 2 ^ (64 - t) := by
  refine Nat.div_lt_of_lt_mul ?_
  refine Nat.lt_of_mul_lt_mul_right (a := 2 ^ (64 * p + t)) ?_
  rw [← Nat.pow_add, ← Nat.pow_add, show 64 * (k + 1) + (64 - t) + (64 * p + t) = 256 by omega]
  exact hA
 have hE : 2 ^ (64 - t) ≤ 2 ^ 64 := Nat.pow_le_pow_right (by decide) (by omega)
 rw [Nat.mod_eq_of_lt (Nat.lt_of_lt_of_le hlt hE), Nat.mod_eq_of_lt hlt, e1]
 have hs : A / 2 ^ (64 * k) / 2 ^ 64 * 2 ^ t + A / 2 ^ (64 * k) % 2 ^ 64 / 2 ^ (64 - t) = A / 2 ^ (64 * k) / 2 ^ (64 - t) := by
  generalize A / 2 ^ (64 * k) = B
  conv => rhs; rw [← Nat.div_add_mod B (2 ^ 64), ← hW, Nat.mul_comm (2 ^ t), Nat.mul_assoc, Nat.mul_add_div (Nat.two_pow_pos _)]
  rw [Nat.mul_comm (2 ^ (64 - t)) (2 ^ t), hW, Nat.mul_comm]
 rw [hs, Nat.div_div_eq_div_mul, Nat.div_div_eq_div_mul]
 have e2 : (2 : Nat) ^ 194 = 2 ^ (64 * k) * 2 ^ (64 - t) * 4 * 2 ^ (64 * p + t) := by
  rw [show (4 : Nat) = 2 ^ 2 from rfl, ← Nat.pow_add, ← Nat.pow_add, ← Nat.pow_add, show 64 * k + (64 - t) + 2 + (64 * p + t) = 194 by omega]
 rw [e2, Nat.mul_div_mul_right _ _ (Nat.two_pow_pos _), Nat.mul_assoc]
theorem high_low {A t : Nat} (ht : t ≤ 63) (hA : A * 2 ^ (64 * 3 + t) < 2 ^ 256) : A / 2 ^ (64 * 0) % 2 ^ 64 % 2 ^ (64 - t) * 2 ^ t / 4 = A * 2 ^ (64 * 3 + t) / 2 ^ 194 := by
 have hlt : A < 2 ^ (64 - t) := by
  refine Nat.lt_of_mul_lt_mul_right (a := 2 ^ (64 * 3 + t)) ?_
  rw [← Nat.pow_add, show 64 - t + (64 * 3 + t) = 256 by omega]
  exact hA
 have hE : 2 ^ (64 - t) ≤ 2 ^ 64 := Nat.pow_le_pow_right (by decide) (by omega)
 rw [Nat.mul_zero, Nat.pow_zero, Nat.div_one, Nat.mod_eq_of_lt (Nat.lt_of_lt_of_le hlt hE), Nat.mod_eq_of_lt hlt, Nat.pow_add, Nat.mul_comm (2 ^ (64 * 3)), ← Nat.mul_assoc]
 rw [show (2 : Nat) ^ 194 = 4 * 2 ^ (64 * 3) from by decide, Nat.mul_div_mul_right _ _ (Nat.two_pow_pos _)]
theorem ok_highest : ∀ (a : Nat) (n : Int), Ok (highC a n) → Owes Try.prog Cx.none [] 100 Try.f100 [sU a, sI .i64 n] (highG a n) := by
 intro a n hc
 obtain ⟨hn, hlt, _⟩ := hc
 rw [vc_highest]
 obtain ⟨p, t, hnp, ht, hp, y1, y2, y3, _⟩ := n_parts (n := n) (by omega)
 have hp3 : p ≤ 3 := by omega
 have hn2 : n.toNat = 64 * p + t := by omega
 have hlt' : a % M256 * 2 ^ (64 * p + t) < 2 ^ 256 := by rw [← hn2]; exact hlt
 have hN : highN a n = a % M256 * 2 ^ (64 * p + t) / 2 ^ 194 := by unfold highN; rw [hn2]
 have hNlt : highN a n < 4611686018427387904 := by
  rw [hN]
  exact Nat.div_lt_of_lt_mul hlt'
 have hW := W_two t (by omega)
 intro x1 x2 x3 x4
 have E1 : x1 = ((3 - p : Nat) : Int) := by simp only [x1]; rw [y1, IntWalk.i64_in _ (by omega)]; omega
 have E3 : x3 = ((64 - t : Nat) : Int) := y3
 obtain ⟨c, hc, bc⟩ := limb_is a (3 - p)
 have hc' : c = a % M256 / 2 ^ (64 * (3 - p)) % 2 ^ 64 := by
  have : limb a (3 - p) = ((a / 2 ^ (64 * (3 - p)) % 2 ^ 64 : Nat) : Int) := rfl
  rw [hc, limb_mod a (3 - p) (by omega)] at this
  exact_mod_cast this
 have E4 : x4 = IntKind.u64.wrap ((c : Int) * ((2 ^ t : Nat) : Int)) := by simp only [x4]; rw [E1, Int.toNat_natCast, hc, y2, two_min t (by omega)]
 have E2 : x2 = ((3 - p : Nat) : Int) - 1 := by simp only [x2]; rw [E1, IntWalk.i64_in _ (by omega)]
 clear_value x4 x3 x2 x1
 rw [E1, E2, E3, E4, y2]
 refine ⟨by omega, by omega, nn _, fun h => ⟨?_, ?_, nn _, ?_⟩, fun h => ?_⟩
 ·have := of_decide_eq_true h; omega
 ·have := of_decide_eq_true h; omega
 ·have h := of_decide_eq_true h
  obtain ⟨k, hk⟩ : ∃ k, 3 - p = k + 1 := ⟨2 - p, by omega⟩
  have hk2 : p + k = 2 := by omega
  rw [hk] at hc' ⊢
  rw [show ((k + 1 : Nat) : Int) - 1 = ((k : Nat) : Int) by omega, Int.toNat_natCast]
  obtain ⟨d, hd, bd⟩ := limb_is a k
  have hd' : d = a % M256 / 2 ^ (64 * k) % 2 ^ 64 := by
   have : limb a k = ((a / 2 ^ (64 * k) % 2 ^ 64 : Nat) : Int) := rfl
   rw [hd, limb_mod a k (by omega)] at this
   exact_mod_cast this
  rw [hd, two_min (64 - t) (by omega)]
  obtain ⟨o1, _⟩ := or_up c d t (by omega) bd
  rw [o1, hc', hd']
  have e4 : ∀ n : Nat, (n : Int).fdiv 4 = ((n / 4 : Nat) : Int) := fun n => fdiv_nat n 4
  rw [e4, high_word ht hk2 hlt', ← hN, IntWalk.i64_in _ (by omega)]
 ·have h := of_decide_eq_false h
  have hp' : p = 3 := by omega
  subst hp'
  have e4 : ∀ n : Nat, (n : Int).fdiv 4 = ((n / 4 : Nat) : Int) := fun n => fdiv_nat n 4
  rw [wrap_up c _ _ hW, e4, hc', show 3 - 3 = 0 from rfl, high_low ht hlt', ← hN, IntWalk.i64_in _ (by omega)]
theorem card_highest : FnOK Try.prog 100 (specUJ highC highG) :=
 FnOK_UJ CxOK_nil (iv := fun _ _ => []) (N := 100) Try.func100 (by kernel_rfl) (by kernel_rfl) (fun _ _ => bnd_one (bnd_I _ _)) ok_highest
theorem ok_of : ∀ (ls : List (List At)) (vs : List (Option Addr)), Ok (turnC ls) → Owes Try.prog cxTurn [] 100 Try.f93 (mkArgs [.str [.u, .u, .u, .u], .str [.u, .u]] ls vs) (turnG ls) := by
 intro ls vs hc
 unfold turnC at hc
 split at hc
 ·rename_i a b c d p q
  have h : Owes Try.prog cxTurn [] 100 Try.f93 [.agg [.u a, .u b, .u c, .u d], .agg [.u p, .u q]] (turnG [[.u a, .u b, .u c, .u d], [.u p, .u q]]) := by
   rw [vc_of]
   exact ⟨rfl, rfl, trivial⟩
  exact h
 ·exact hc.1.elim
theorem bnd_agg {ks : List SK} (h : ∀ k ∈ ks, ∃ n, k = .u n) : SA.bnd none0 (.agg ks) := by
 intro k hk
 obtain ⟨n, rfl⟩ := h k hk
 trivial
theorem card_of : FnOK Try.prog 93 (specA [.str [.u, .u, .u, .u], .str [.u, .u]] turnC turnG) :=
 FnOK_A (CxOK_cons card_Mul (CxOK_cons card_Add CxOK_nil)) (iv := fun _ => []) (N := 100) Try.func93 (by kernel_rfl) (by kernel_rfl) (fun ls => by
  unfold turnG
  split
  ·exact bnd_one (bnd_agg (by intro k hk; simp only [List.mem_cons, List.not_mem_nil, or_false] at hk; rcases hk with rfl | rfl <;> exact ⟨_, rfl⟩))
  ·intro z hz; simp at hz) ok_of
theorem top_bit (a : Nat) : (((limb a 3).fdiv (9223372036854775808 : Int) == (1 : Int)) = true → 57896044618658097711785492504343953926634992332820282019728792003956564819968 ≤ a % M256) ∧ (((limb a 3).fdiv (9223372036854775808 : Int) == (1 : Int)) = false → a % M256 < 57896044618658097711785492504343953926634992332820282019728792003956564819968) := by
 obtain ⟨c0, h0, b0⟩ := limb_is a 0
 obtain ⟨c1, h1, b1⟩ := limb_is a 1
 obtain ⟨c2, h2, b2⟩ := limb_is a 2
 obtain ⟨c3, h3, b3⟩ := limb_is a 3
 have hA := horner_is a c0 c1 c2 c3 h0 h1 h2 h3
 have e : (c3 : Int).fdiv 9223372036854775808 = ((c3 / 9223372036854775808 : Nat) : Int) := fdiv_nat c3 9223372036854775808
 rw [h3, e, hA]
 refine ⟨fun h => ?_, fun h => ?_⟩
 ·have := beq_iff_eq.1 h
  omega
 ·have := beq_eq_false_iff_ne.1 h
  omega
theorem ok_above : ∀ a m : Nat, Owes Try.prog cxAbove [] 100 Try.f94 [sU a, sU m] (aboveG a m) := by
 intro a m
 rw [vc_above]
 obtain ⟨t1, t2⟩ := top_bit a
 intro x1 x2 x3
 refine ⟨fun h => ⟨?_, trivial⟩, fun h => ⟨?_, trivial⟩⟩
 ·simp only [x3]
  rw [if_pos (t1 h)]
 ·simp only [x3]
  rw [if_neg (Nat.not_le_of_lt (t2 h))]
theorem card_above : FnOK Try.prog 94 (specUU aboveG) :=
 FnOK_UU (CxOK_cons card_Add CxOK_nil) (iv := []) (N := 100) Try.func94 (by kernel_rfl) (by kernel_rfl) (fun _ _ => bnd_one (bnd_U _)) ok_above
end Go.Proofs.Yteimeidpcgebkaa
end

section
namespace Go.Proofs.Yteimeidpcgebkaa
open Go.Sx
theorem fsC_of {p q : Nat} (h : q % M256 < p % M256) : 0 ≤ foN p ∧ foN p ≤ 255 ∧ p % M256 * 2 ^ (foN p).toNat < M256 ∧ q % M256 * 2 ^ (foN p).toNat < M256 ∧
  ∃ N B e0 e1 : Int, FsC (p % M256) (q % M256) N B (highN p (foN p) : Nat) (highN q (foN p) : Nat) e0 e1 4611686018427387904 := by
 have hM : p % M256 < M256 := Nat.mod_lt _ (by rw [M256_eq]; decide)
 unfold foN highN
 generalize p % M256 = P at *
 generalize q % M256 = Q at *
 have hb := bitsN_le (n := P) (k := 256) hM
 obtain ⟨b1, b2⟩ := bitsN_two P (by omega)
 have hb0 : 0 < bitsN P := by
  rcases Nat.eq_zero_or_pos (bitsN P) with e | e
  ·rw [e] at b1; omega
  ·exact e
 have hD : 2 ^ bitsN P * 2 ^ (256 - bitsN P) = M256 := by rw [← Nat.pow_add, M_pow, show bitsN P + (256 - bitsN P) = 256 by omega]
 have c1 : P * 2 ^ (256 - bitsN P) < M256 := by rw [← hD]; exact Nat.mul_lt_mul_of_pos_right b1 (Nat.two_pow_pos _)
 have c2 : Q * 2 ^ (256 - bitsN P) < M256 := Nat.lt_trans (Nat.mul_lt_mul_of_pos_right h (Nat.two_pow_pos _)) c1
 have c3 : M256 ≤ 2 * (P * 2 ^ (256 - bitsN P)) := by rw [← hD, ← Nat.mul_assoc]; exact Nat.mul_le_mul_right _ b2
 rw [Int.toNat_natCast]
 refine ⟨by omega, by omega, c1, c2, ((2 ^ (256 - bitsN P) : Nat) : Int), ((2 ^ 194 : Nat) : Int), ((P * 2 ^ (256 - bitsN P) % 2 ^ 194 : Nat) : Int), ((Q * 2 ^ (256 - bitsN P) % 2 ^ 194 : Nat) : Int), ?_⟩
 have hN : 0 < 2 ^ (256 - bitsN P) := Nat.two_pow_pos _
 rw [M256_eq] at c1 c2 c3
 have k : ∀ z : Nat, (z : Int) * ((2 ^ (256 - bitsN P) : Nat) : Int) = ((z * 2 ^ (256 - bitsN P) : Nat) : Int) := fun z => (Int.natCast_mul _ _).symm
 generalize 2 ^ (256 - bitsN P) = D at *
 refine ⟨by omega, ?_, ?_, ?_, ?_, ?_, ?_⟩
 ·rw [k]
  have := Nat.div_add_mod (P * D) (2 ^ 194)
  generalize P * D = X at *
  omega
 ·rw [k]
  have := Nat.div_add_mod (Q * D) (2 ^ 194)
  generalize Q * D = X at *
  omega
 ·generalize P * D = X at *
  omega
 ·generalize Q * D = X at *
  omega
 ·generalize P * D = X at *
  omega
 ·generalize Q * D = X at *
  omega
theorem foR_goes {p q : Nat} (h : q % M256 < p % M256) : ∃ R0 R1 : Nat, Goes (p % M256) (q % M256) R0 R1 (foR p q).1 (foR p q).2.1 (foR p q).2.2.1 (foR p q).2.2.2 ∧ (R1 < q % M256 ∨ (foR p q).2.1 = 0) := by
 obtain ⟨_, _, _, _, N, B, e0, e1, C⟩ := fsC_of h
 obtain ⟨x, y, F⟩ := FsK.run C (highN q (foN p) + 1) _ _ _ _ _ _ (FsK.start C)
 obtain ⟨R0, R1, g, hg⟩ := F.g
 exact ⟨R0, R1, g, hg.imp id (fun h => h.2)⟩
theorem wrap_step (x z : Int) : IntKind.i64.wrap (x - IntKind.i64.wrap z) = IntKind.i64.wrap (x - z) := by
 rw [IntKind.wrap_i64, IntKind.wrap_i64, IntKind.wrap_i64]
 omega
theorem ent_range {a : Int} (h : a.natAbs ≤ Int.toNat 4611686018427387904) : -9223372036854775808 ≤ a ∧ a ≤ 9223372036854775807 := by
 have : Int.toNat 4611686018427387904 = 4611686018427387904 := rfl
 omega
theorem foC_pair (ls : List (List At)) (h : Ok (foC ls)) : ∃ p q, ls = [[.u p, .u q]] ∧ q % M256 < p % M256 := by
 unfold foC at h
 split at h
 ·exact ⟨_, _, rfl, h.1⟩
 ·exact h.1.elim
theorem ok_foresee : ∀ p q : Nat, q % M256 < p % M256 → Owes Try.prog cxFo [(4, .inv (invFo p q))] 100 Try.f91 [.agg [.u p, .u q]] (foG [[.u p, .u q]]) := by
 intro p q hpq
 rw [vc_foresee]
 obtain ⟨n0, n1, hP, hQ, C0⟩ := fsC_of hpq
 intro x1 x2 x3 x4 x5 x6 x7 x8 x9 x10
 refine ⟨⟨n0, n1⟩, hP, ⟨n0, n1⟩, hQ, fun y => rfl, ⟨((highN p (foN p) : Nat) : Int), ((highN q (foN p) : Nat) : Int), 1, 0, 0, 1, highN q (foN p) + 1⟩, ⟨rfl, ?_, ?_⟩, rfl, rfl, rfl, rfl, rfl, rfl, rfl, rfl, rfl, rfl, ?_⟩
 ·show ((highN q (foN p) : Nat) + (0 : Int)).toNat < highN q (foN p) + 1
  omega
 ·obtain ⟨N, B, e0, e1, C⟩ := C0
  exact ⟨N, B, e0, e1, C, FsK.start C⟩
 rintro ⟨x, y, a, b, c, d, n⟩ ⟨hfs, hlt, N, B, e0, e1, C, F⟩
 dsimp only at hfs hlt F ⊢
 have F' := F
 obtain ⟨_, _, _, p1, p2, p3, p4, sg, ba, bb, bc, bd⟩ := F'
 have ra := ent_range ba
 have rb := ent_range bb
 have rc := ent_range bc
 have rd := ent_range bd
 have w1 : IntKind.i64.wrap (y + c) = y + c := IntWalk.i64_in _ (by clear sg; omega)
 have w2 : IntKind.i64.wrap (y + d) = y + d := IntWalk.i64_in _ (by clear sg; omega)
 have w3 : IntKind.i64.wrap (x + a) = x + a := IntWalk.i64_in _ (by clear sg; omega)
 have w4 : IntKind.i64.wrap (x + b) = x + b := IntWalk.i64_in _ (by clear sg; omega)
 rw [w1, w2, w3, w4]
 have leave : foR p q = (a, b, c, d) → (-9223372036854775808 ≤ a ∧ a ≤ 9223372036854775807) ∧ (-9223372036854775808 ≤ b ∧ b ≤ 9223372036854775807) ∧ (-9223372036854775808 ≤ c ∧ c ≤ 9223372036854775807) ∧ (-9223372036854775808 ≤ d ∧ d ≤ 9223372036854775807) ∧
   (wrN a % M256 = x5 ∧ wrN b % M256 = x7 ∧ wrN c % M256 = x8 ∧ wrN d % M256 = x9 ∧ True) ∧ (b != (0 : Int)) = x10 := by
  intro e
  refine ⟨ra, rb, rc, rd, ⟨?_, ?_, ?_, ?_, trivial⟩, ?_⟩
  ·simp only [x5, e]
  ·simp only [x7, x6, e]
  ·simp only [x8, e]
  ·simp only [x9, e]
  ·simp only [x10, x6, e]; rfl
 obtain ⟨k, rfl⟩ : ∃ k, n = k + 1 := ⟨n - 1, by omega⟩
 refine ⟨id, id, id, id, fun hc => ?_, fun hc => leave ?_⟩
 ·rw [Bool.and_eq_true] at hc
  have hyc : y + c ≠ 0 := bne_iff_ne.1 hc.1
  have hyd : y + d ≠ 0 := bne_iff_ne.1 hc.2
  have t1 : (x + a).tdiv (y + c) = (x + a) / (y + c) := Int.tdiv_eq_ediv_of_nonneg (by clear sg; omega)
  have t2 : (x + b).tdiv (y + d) = (x + b) / (y + d) := Int.tdiv_eq_ediv_of_nonneg (by clear sg; omega)
  have r1 : 0 ≤ (x + a) / (y + c) := Int.ediv_nonneg (by clear sg; omega) p3.1
  have r2 : 0 ≤ (x + b) / (y + d) := Int.ediv_nonneg (by clear sg; omega) p4.1
  have r3 : (x + a) / (y + c) ≤ x + a := Int.ediv_le_self _ (by clear sg; omega)
  have r4 : (x + b) / (y + d) ≤ x + b := Int.ediv_le_self _ (by clear sg; omega)
  have w5 : IntKind.i64.wrap ((x + a) / (y + c)) = (x + a) / (y + c) := IntWalk.i64_in _ (by clear sg; omega)
  have w6 : IntKind.i64.wrap ((x + b) / (y + d)) = (x + b) / (y + d) := IntWalk.i64_in _ (by clear sg; omega)
  rw [t1, t2, w5, w6, wrap_step, wrap_step, wrap_step]
  refine ⟨hyc, hyd, fun hq => leave ?_, fun hq => ?_⟩
  ·have hq := bne_iff_ne.1 hq
   rw [← hfs, fs, if_neg (by omega), if_pos hq]
  ·have hq : (x + a) / (y + c) = (x + b) / (y + d) := by
    rcases Classical.em ((x + a) / (y + c) = (x + b) / (y + d)) with e | e
    ·exact e
    ·rw [bne_iff_ne.2 e] at hq; cases hq
   obtain ⟨G, hlt'⟩ := F.step C hyc hyd rfl hq.symm
   have G' := G
   obtain ⟨_, _, _, g1, g2, g3, g4, gs, _, _, gc, gd⟩ := G'
   have hfs' : fs k y (x - (x + a) / (y + c) * y) c d (a - (x + a) / (y + c) * c) (b - (x + a) / (y + c) * d) = foR p q := by
    rw [← hfs, fs, if_neg (by omega), if_neg (fun h => h hq)]
   generalize (x + a) / (y + c) = Q at *
   have gc := ent_range gc
   have gd := ent_range gd
   have v1 : IntKind.i64.wrap (x - Q * y) = x - Q * y := IntWalk.i64_in _ (by
    generalize Q * y = Z at *
    generalize a - Q * c = A at *
    generalize b - Q * d = D at *
    clear sg hfs'
    rcases gs with h | h
    ·have := h.2.2.1; have := h.2.2.2.1; omega
    ·have := h.2.2.1; have := h.2.2.2.1; omega)
   have v2 : IntKind.i64.wrap (a - Q * c) = a - Q * c := IntWalk.i64_in _ gc
   have v3 : IntKind.i64.wrap (b - Q * d) = b - Q * d := IntWalk.i64_in _ gd
   rw [v1, v2, v3]
   refine ⟨⟨y, x - Q * y, c, d, a - Q * c, b - Q * d, k⟩, ⟨hfs', ?_, N, B, e0, e1, C, G⟩, rfl, rfl, rfl, rfl, rfl, rfl, rfl, rfl, rfl, rfl, Nat.lt_succ_self k⟩
   show (x - Q * y + (a - Q * c)).toNat < k
   clear gs sg hfs'
   omega
 ·rw [← hfs, fs, if_pos ?_]
  rcases Classical.em (y + c = 0) with e | e
  ·exact .inl e
  ·refine .inr ?_
   rcases Classical.em (y + d = 0) with e' | e'
   ·exact e'
   ·rw [bne_iff_ne.2 e, bne_iff_ne.2 e'] at hc; cases hc
theorem card_foresee : FnOK Try.prog 91 (specA [.str [.u, .u]] foC foG) :=
 FnOK_A (CxOK_cons card_fnoughts (CxOK_cons card_highest (CxOK_cons card_signed CxOK_nil))) (iv := fun ls => match ls with
  | [[.u p, .u q]] => [(4, .inv (invFo p q))]
  | _ => []) (N := 100) Try.func91 (by kernel_rfl) (by kernel_rfl) (fun ls => by
  unfold foG
  split
  ·exact bnd_two (bnd_agg (by intro k hk; simp only [List.mem_cons, List.not_mem_nil, or_false] at hk; rcases hk with rfl | rfl | rfl | rfl <;> exact ⟨_, rfl⟩)) (bnd_B _)
  ·intro z hz; simp at hz) (fun ls vs h => by
  obtain ⟨p, q, rfl, h2⟩ := foC_pair ls h
  exact ok_foresee p q h2)
end Go.Proofs.Yteimeidpcgebkaa
end

section
namespace Go.Proofs.Yteimeidpcgebkaa
open Go.Sx
theorem EuK.le_m {m a r0 r1 : Nat} {s0 s1 : Int} (k : EuK m a r0 r1 s0 s1) (hm : 0 < m) : r0 ≤ m := by
 have hle := k.le
 have hlt := k.lt
 rcases k.sg with ⟨g1, g2, e⟩ | ⟨g1, g2, e⟩
 ·have h1 : 1 ≤ s1 := by
   rcases Int.lt_or_le 0 s1 with h | h
   ·exact h
   ·have : s1 = 0 := by omega
    have : s0 = 0 := by omega
    subst_vars
    omega
  have p1 := Int.mul_le_mul_of_nonneg_left h1 (show (0 : Int) ≤ r0 by omega)
  have p2 := Int.mul_nonpos_of_nonneg_of_nonpos (show (0 : Int) ≤ r1 by omega) g1
  omega
 ·have h1 : s1 ≤ -1 := by
   rcases Int.lt_or_le s1 0 with h | h
   ·omega
   ·have : s1 = 0 := by omega
    have : s0 = 0 := by omega
    subst_vars
    omega
  have p1 := Int.mul_le_mul_of_nonneg_left h1 (show (0 : Int) ≤ r0 by omega)
  have p2 := Int.mul_nonneg (show (0 : Int) ≤ r1 by omega) g1
  omega
theorem wr_lin {x y u v : Nat} {X Y A B Z : Int} (hx : (x : Int) % (M256 : Int) = X % (M256 : Int)) (hy : (y : Int) % (M256 : Int) = Y % (M256 : Int)) (hu : (u : Int) % (M256 : Int) = A % (M256 : Int)) (hv : (v : Int) % (M256 : Int) = B % (M256 : Int)) (hZ : X * A + Y * B = Z) :
  (x * u + y * v) % M256 = wrN Z % M256 := by
 have e : (((x * u + y * v) % M256 : Nat) : Int) = ((wrN Z % M256 : Nat) : Int) := by
  rw [Int.natCast_emod, Int.natCast_emod, wrN_cast, Int.emod_emod, Int.natCast_add, Int.natCast_mul, Int.natCast_mul, Int.add_emod, Int.mul_emod (x : Int), Int.mul_emod (y : Int), hx, hy, hu, hv, ← Int.mul_emod, ← Int.mul_emod, ← Int.add_emod, hZ]
 exact_mod_cast e
theorem wr_nat (n : Nat) : wrN (n : Int) % M256 = n % M256 := by
 have e : ((wrN (n : Int) % M256 : Nat) : Int) = ((n % M256 : Nat) : Int) := by
  rw [Int.natCast_emod, wrN_cast, Int.emod_emod, Int.natCast_emod]
 exact_mod_cast e
theorem wr_cast (z : Int) : ((wrN z : Nat) : Int) % (M256 : Int) = z % (M256 : Int) := by rw [wrN_cast, Int.emod_emod]
theorem neg_cast (q : Nat) : (((115792089237316195423570985008687907853269984665640564039457584007913129639936 - q % M256 : Nat) : Int)) % (M256 : Int) = (-(q : Int)) % (M256 : Int) := by
 have hlt : q % M256 < M256 := Nat.mod_lt _ (by rw [M256_eq]; decide)
 rw [← M256_eq, Int.ofNat_sub (Nat.le_of_lt hlt), Int.natCast_emod]
 have e : (M256 : Int) - (q : Int) % (M256 : Int) = -(q : Int) + (M256 : Int) * ((q : Int) / (M256 : Int) + 1) := by
  have := Int.mul_ediv_add_emod (q : Int) (M256 : Int)
  rw [Int.mul_add]
  omega
 rw [e, Int.add_mul_emod_self_left]
theorem inv_end {m a r0 : Nat} {s0 s1 : Int} (hmM : m < M256) (ham : a < m) (k : EuK m a r0 0 s0 s1) (e : euE r0 0 s0 s1 = euE m a 0 1) :
  (r0 ≠ 1 → 0 = invN a m % M256 ∧ (5 : Int) = invE a m) ∧
  (r0 = 1 → ∀ mm : Nat, mm % M256 = m → (if 57896044618658097711785492504343953926634992332820282019728792003956564819968 ≤ wrN s0 % M256 then wrN s0 + mm else wrN s0) % M256 = invN a m % M256 ∧ (0 : Int) = invE a m) := by
 rw [euE_zero] at e
 unfold invN invE
 rw [← e]
 refine ⟨fun h => ?_, fun h mm hmm => ?_⟩
 ·rw [if_neg h, if_neg h, Nat.zero_mod]
  exact ⟨rfl, rfl⟩
 ·rw [if_pos h, if_pos h]
  refine ⟨?_, rfl⟩
  have hh := k.half
  rw [Nat.mod_eq_of_lt (wrN_lt s0)]
  have hM := M256_eq
  rcases Int.lt_or_le s0 0 with g | g
  ·have w : wrN s0 = (s0 + 2 ^ 256).toNat := wrN_neg g (by omega)
   have v : s0 % (m : Int) = s0 + m := by
    rw [← Int.add_emod_right]
    exact Int.emod_eq_of_lt (by omega) (by omega)
   have c : 57896044618658097711785492504343953926634992332820282019728792003956564819968 ≤ wrN s0 := by omega
   rw [if_pos c, v, Nat.add_mod, hmm]
   have q1 : wrN s0 % M256 = wrN s0 := Nat.mod_eq_of_lt (wrN_lt s0)
   rw [q1]
   have q2 : wrN s0 + m = (s0 + m).toNat + M256 := by
    rw [w, hM]
    omega
   rw [q2, Nat.add_mod_right]
  ·have w : wrN s0 = s0.toNat := wrN_nonneg g (by omega)
   have v : s0 % (m : Int) = s0 := Int.emod_eq_of_lt g (by omega)
   have c : ¬ 57896044618658097711785492504343953926634992332820282019728792003956564819968 ≤ wrN s0 := by omega
   rw [if_neg c, v, w]
set_option maxHeartbeats 1000000 in
theorem ok_inverse : ∀ a m : Nat, Ok (inverseC a m) → Owes Try.prog cxInverse [(2, .inv (invInv a m))] 100 Try.f84 [sU a, sU m] (inverseG a m) := by
 intro a m hc
 obtain ⟨ham, _⟩ := hc
 rw [vc_inverse]
 have hM0 : 0 < M256 := by rw [M256_eq]; decide
 have hM1 : 1 % M256 = 1 := by rw [M256_eq]
 have hmM : m % M256 < M256 := Nat.mod_lt _ hM0
 have END := fun (r0 : Nat) (s0 s1 : Int) => inv_end (r0 := r0) (s0 := s0) (s1 := s1) hmM ham
 intro x1 x2 x3 x4
 have E3 : x3 = invN x2 x1 % M256 := rfl
 have E4 : x4 = invE x2 x1 := rfl
 have X1 : m % M256 = x1 := rfl
 have X2 : a % M256 = x2 := rfl
 clear_value x4 x3
 rw [X1, X2] at END
 rw [X1] at hmM
 rw [X1, X2] at ham
 clear_value x2 x1
 refine ⟨fun y => rfl, ⟨x1, x2, 0, 1⟩, ⟨EuK.start ham, rfl, Nat.le_refl _⟩, rfl, rfl, rfl, rfl, rfl, (Nat.mod_eq_of_lt hmM).symm, (Nat.mod_eq_of_lt (Nat.lt_trans ham hmM)).symm, rfl, ⟨(wr_nat 0).symm, ?_, trivial⟩, rfl, ?_⟩
 ·have := wr_nat 1
  rw [hM1] at this
  exact this.symm
 rintro ⟨r0, r1, s0, s1⟩ ⟨K, hE, hle⟩
 dsimp only at K hE hle ⊢
 have hlt := K.lt
 have m0 : r0 % M256 = r0 := Nat.mod_eq_of_lt (Nat.lt_of_le_of_lt hle hmM)
 have m1 : r1 % M256 = r1 := Nat.mod_eq_of_lt (Nat.lt_trans hlt (Nat.lt_of_le_of_lt hle hmM))
 rw [m1, m0]
 have hx1 : 0 < x1 := Nat.lt_of_le_of_lt (Nat.zero_le _) ham
 refine ⟨fun h => ⟨hlt, fun hb => ?_, fun hb => ?_⟩, fun h => ?_⟩
 ·have hr : r1 ≠ 0 := by
   intro e
   subst e
   revert h
   decide
  rw [if_neg hr]
  have K' := K.step hr
  have l' := EuK.le_m K' hx1
  have hq : ((r0 / r1 : Nat) : Int) = ((r0 / r1 : Nat) : Int) := rfl
  have hdm : (r0 : Int) = (r1 : Int) * ((r0 / r1 : Nat) : Int) + ((r0 % r1 : Nat) : Int) := by exact_mod_cast (Nat.div_add_mod r0 r1).symm
  refine ⟨⟨r1, r0 % r1, s1, s0 - ((r0 / r1 : Nat) : Int) * s1⟩, ⟨K', by rw [← hE, ← euE_step hr], l'⟩, rfl, rfl, rfl, rfl, rfl, ?_, ?_, rfl, ?_, ?_, rfl, Nat.mod_lt _ (Nat.pos_of_ne_zero hr)⟩
  ·rw [Nat.zero_mul, Nat.zero_add, Nat.one_mul]
  ·rw [← wr_nat (r0 % r1)]
   refine wr_lin (X := 1) (Y := -((r0 / r1 : Nat) : Int)) (A := r0) (B := r1) rfl (neg_cast _) rfl rfl ?_
   rw [Int.one_mul, Int.neg_mul, Int.mul_comm ((r0 / r1 : Nat) : Int)]
   omega
  ·rw [Nat.zero_mul, Nat.zero_add, Nat.one_mul]
  ·refine wr_lin (X := 1) (Y := -((r0 / r1 : Nat) : Int)) (A := s0) (B := s1) rfl (neg_cast _) (wr_cast _) (wr_cast _) ?_
   show 1 * s0 + -((r0 / r1 : Nat) : Int) * s1 = s0 - ((r0 / r1 : Nat) : Int) * s1
   rw [Int.one_mul, Int.neg_mul, Int.sub_eq_add_neg]
 ·obtain ⟨R0, R1, g, hg⟩ := foR_goes (p := r0) (q := r1) (by rw [m0, m1]; exact hlt)
  rw [m0, m1] at g
  rw [m1] at hg
  have hb' : (foR r0 r1).2.1 ≠ 0 := by
   intro e
   rw [e] at hb
   revert hb
   decide
  have hg' : R1 < r1 := hg.resolve_right hb'
  have K' := g.gK _ _ _ _ K
  have l' := EuK.le_m K' hx1
  refine ⟨⟨R0, R1, _, _⟩, ⟨K', by rw [← hE, g.gE], l'⟩, rfl, rfl, rfl, rfl, rfl, ?_, ?_, rfl, ?_, ?_, rfl, hg'⟩
  ·rw [← wr_nat R0]
   exact wr_lin (wr_cast _) (wr_cast _) rfl rfl g.e0.symm
  ·rw [← wr_nat R1]
   exact wr_lin (wr_cast _) (wr_cast _) rfl rfl g.e1.symm
  ·exact wr_lin (wr_cast _) (wr_cast _) (wr_cast _) (wr_cast _) rfl
  ·exact wr_lin (wr_cast _) (wr_cast _) (wr_cast _) (wr_cast _) rfl
 ·have hr : r1 = 0 := by
   rcases Nat.eq_zero_or_pos r1 with e | e
   ·exact e
   ·have hne : (r1 == 0) = false := beq_eq_false_iff_ne.2 (by omega)
    rw [hne] at h
    exact absurd h (by decide)
  subst hr
  obtain ⟨e1, e2⟩ := END r0 s0 s1 K hE
  refine ⟨fun h1 => ?_, fun h1 => ?_⟩
  ·have hne : r0 ≠ 1 := by
    intro e
    subst e
    revert h1
    decide
   obtain ⟨p, q⟩ := e1 hne
   rw [E3, E4]
   exact ⟨⟨p, trivial⟩, q⟩
  ·have heq : r0 = 1 := by
    rcases Classical.em (r0 = 1) with e | e
    ·exact e
    ·rw [beq_eq_false_iff_ne.2 e] at h1
     exact absurd h1 (by decide)
   obtain ⟨p, q⟩ := e2 heq m X1
   rw [E3, E4]
   exact ⟨⟨p, trivial⟩, q⟩
theorem card_inverse : FnOK Try.prog 84 (specUUC inverseC inverseG) :=
 FnOK_UUC (CxOK_cons card_foresee (CxOK_cons card_of (CxOK_cons card_above (CxOK_cons card_DivMod (CxOK_cons card_Sub CxOK_nil))))) (iv := fun a m => [(2, .inv (invInv a m))]) (N := 100) Try.func84 (by kernel_rfl) (by kernel_rfl) (fun _ _ => bnd_two (bnd_U _) (bnd_I _ _)) ok_inverse
theorem ok_fInv : ∀ a m : Nat, Owes Try.prog cxInv [] 100 Try.f71 [sU a, sU m] (finvG a m) := by
 intro a m
 rw [vc_fInv]
 intro x1 x2 x3 x4
 refine ⟨fun h => ?_, fun h => ⟨fun h1 => ?_, fun h1 => ?_⟩⟩
 ·have e : finvE a m = 7 := by unfold finvE; rw [if_pos (beq_iff_eq.1 h)]
  simp only [x4, e]
  exact ⟨⟨rfl, trivial⟩, trivial⟩
 ·have hge := cmp_ge.1 (of_decide_eq_true h1)
  have e : finvE a m = 6 := by unfold finvE; rw [if_neg (beq_eq_false_iff_ne.1 h), if_neg (Nat.not_lt_of_le hge)]
  simp only [x4, e]
  exact ⟨⟨rfl, trivial⟩, trivial⟩
 ·have l1 : a % M256 < m % M256 := Nat.lt_of_not_le fun c => of_decide_eq_false h1 (cmp_ge.2 c)
  have e : finvE a m = invE x2 x1 := by unfold finvE; rw [if_neg (beq_eq_false_iff_ne.1 h), if_pos l1]
  refine ⟨l1, ⟨?_, trivial⟩, e.symm⟩
  simp only [x4]
  rw [e]
  simp only [x3]
  unfold invE invN
  by_cases c : (euE x1 x2 0 1).1 = 1
  ·rw [if_pos c, if_pos c, if_pos rfl]
  ·rw [if_neg c, if_neg c, if_neg (by decide)]
theorem card_fInv : FnOK Try.prog 71 (specUU finvG) :=
 FnOK_UU (CxOK_cons card_Cmp (CxOK_cons card_inverse CxOK_nil)) (iv := []) (N := 100) Try.func71 (by kernel_rfl) (by kernel_rfl) (fun _ _ => bnd_two (bnd_U _) (bnd_I _ _)) ok_fInv
end Go.Proofs.Yteimeidpcgebkaa
end

section
namespace Go.Proofs.Yteimeidpcgebkaa
open Go.Sx
theorem euE_run {m a : Nat} : ∀ (n r0 r1 : Nat) (s0 s1 : Int), r1 ≤ n → EuK m a r0 r1 s0 s1 → ∃ s1', EuK m a (euE r0 r1 s0 s1).1 0 (euE r0 r1 s0 s1).2 s1'
 | 0, r0, r1, s0, s1, h, k => by
  have : r1 = 0 := by omega
  subst this
  exact ⟨s1, k⟩
 | n + 1, r0, r1, s0, s1, h, k => by
  by_cases e : r1 = 0
  ·subst e
   exact ⟨s1, k⟩
  ·have := Nat.mod_lt r0 (Nat.pos_of_ne_zero e)
   rw [euE_step e]
   exact euE_run n _ _ _ _ (by omega) (k.step e)
theorem invE_gcd (a m : Nat) : invE a m = if Nat.gcd a m = 1 then 0 else 5 := by
 unfold invE
 rw [euE_gcd]
theorem invN_gcd {a m : Nat} (h : Nat.gcd a m = 1) : invN a m = ((euE m a 0 1).2 % (m : Int)).toNat := by
 unfold invN
 rw [euE_gcd, if_pos h]
theorem invN_spec {a m : Nat} (ham : a < m) (h : Nat.gcd a m = 1) : invN a m < m ∧ a * invN a m % m = 1 % m := by
 rw [invN_gcd h]
 have hm : (m : Int) ≠ 0 := by omega
 have h1 := Int.emod_nonneg (euE m a 0 1).2 hm
 have h2 := Int.emod_lt_of_pos (euE m a 0 1).2 (show 0 < (m : Int) by omega)
 refine ⟨by omega, ?_⟩
 obtain ⟨_, k⟩ := euE_run a m a 0 1 (Nat.le_refl _) (EuK.start ham)
 have k0 := k.d0
 rw [euE_gcd, h] at k0
 have e : ((a * ((euE m a 0 1).2 % (m : Int)).toNat % m : Nat) : Int) = ((1 % m : Nat) : Int) := by
  rw [Int.natCast_emod, Int.natCast_mul, Int.toNat_of_nonneg h1, Int.natCast_emod, Int.mul_emod, Int.emod_emod, ← Int.mul_emod]
  exact Int.emod_eq_emod_iff_emod_sub_eq_zero.2 (Int.emod_eq_zero_of_dvd k0)
 exact_mod_cast e
end Go.Proofs.Yteimeidpcgebkaa
end

section
namespace Go.Proofs.Yteimeidpcgebkaa
open Go.Sx
end Go.Proofs.Yteimeidpcgebkaa
end

section
namespace Go.Proofs.Yteimeidpcgebkaa
open Go.Sx
theorem M_pos : 0 < M256 := by rw [M256_eq]; decide
theorem mod_M {v m : Nat} (h : v < m % M256) : v % M256 = v := Nat.mod_eq_of_lt (Nat.lt_trans h (Nat.mod_lt _ M_pos))
theorem fE_zero {a b m : Nat} (ha : a % M256 < m % M256) (hb : b % M256 < m % M256) : fE a b m = 0 := by
 unfold fE
 rw [if_neg (by omega), if_pos ⟨ha, hb⟩]
theorem bnd_none : SV.bnd none0 (.tup []) := by intro z hz; simp at hz
end Go.Proofs.Yteimeidpcgebkaa
end

section
namespace Go.Sx
open Go.RowKit
def asDg (x : SA) : Option (List Prop × Nat × (Nat → Int)) :=
 match x with
 | .sc (.val (.slice none 0 0)) => some ([], 0, fun _ => 0)
 | .sc (.xs _ n _ w h) => match Nat.beq w 1 with
  | true => some ([∀ i, isKind .u64 (h i 0)], n, fun i => intsC (h i 0))
  | false => none
 | _ => none
theorem asDg_canon {x : SA} {ps : List Prop} {n : Nat} {f : Nat → Int} (h : asDg x = some (ps, n, f)) (hp : Ok ps) : ∃ a cap, (∀ ρ, x.conc ρ = (xsI a n cap .u64 f).conc ρ) ∧ ∀ fz, x.bnd ⟨fun _ => True, fz⟩ → (xsI a n cap .u64 f).bnd ⟨fun _ => False, fz⟩ := by
 unfold asDg at h
 split at h
 ·simp only [Option.some.injEq, Prod.mk.injEq] at h
  obtain ⟨rfl, rfl, rfl⟩ := h
  exact ⟨none, 0, fun _ => rfl, fun _ _ => ⟨fun _ => ⟨rfl, rfl⟩, Nat.le_refl _, fun b hb => by cases hb⟩⟩
 ·rename_i a m cap w g
  split at h
  case h_2 => cases h
  rename_i hw
  have hw := Nat.eq_of_beq_eq_true hw
  subst hw
  simp only [Option.some.injEq, Prod.mk.injEq] at h
  obtain ⟨rfl, rfl, rfl⟩ := h
  refine ⟨a, cap, fun _ => rfl, fun fz hb => ⟨hb.1, hb.2.1, fun b e => ⟨(hb.2.2 b e).1, fun i hi c hc => ?_⟩⟩⟩
  obtain ⟨_, _, q⟩ := (hb.2.2 b e).2 i hi c hc
  have hc0 : c = 0 := by omega
  subst hc0
  rw [isKind_sound (hp.1 i) Rho.nil] at q
  exact ⟨trivial, rfl, q⟩
 ·cases h
def specD (sh : Bool) (c : Nat → (Nat → Int) → List Prop) (r : Nat → (Nat → Int) → List RS) : SSpec := ⟨sh, fun args =>
 match args with
 | [x] => match asDg x with
  | some (p, n, f) => some (p ++ c n f, r n f)
  | none => none
 | _ => none⟩
def specDD (sh : Bool) (c : Nat → (Nat → Int) → Nat → (Nat → Int) → List Prop) (r : Nat → (Nat → Int) → Nat → (Nat → Int) → List RS) : SSpec := ⟨sh, fun args =>
 match args with
 | [x, y] => match asDg x, asDg y with
  | some (p, n, f), some (q, m, g) => some (p ++ (q ++ c n f m g), r n f m g)
  | _, _ => none
 | _ => none⟩
def specUR (r : Nat → List RS) : SSpec := ⟨false, fun args =>
 match args with
 | [x] => match asU x with
  | some (p, a) => some (p, r a)
  | none => none
 | _ => none⟩
def specDU (c : Nat → (Nat → Int) → Nat → List Prop) (r : Nat → (Nat → Int) → Nat → List RS) : SSpec := ⟨false, fun args =>
 match args with
 | [x, y] => match asDg x, asU y with
  | some (p, n, f), some (q, m) => some (p ++ (q ++ c n f m), r n f m)
  | _, _ => none
 | _ => none⟩
section
variable {P : Program} {cx : Cx} {sl : List (Nat × SSpec)} {f : Nat} {fn : Func}
theorem FnOKs_D (hcx : CxOK P cx) (hsl : ∀ p ∈ sl, FnOKs P cx.gl p.1 p.2) (hf : P.funcs[f]? = some fn) (hb : fn.body.isSome = true) (hn : (fn.name == "runtime.NumGoroutine") = false) {sh : Bool} {c : Nat → (Nat → Int) → List Prop} {r : Nat → (Nat → Int) → List RS} {iv : Option Addr → Nat → Nat → (Nat → Int) → List (Nat × Hint)} {N : Nat} (hr : ∀ n f, ∀ x ∈ r n f, x.closed)
  (h : ∀ a n cap g, Ok (c n g) → OwesR P cx sl (iv a n cap g) N fn [xsI a n cap .u64 g] sh (r n g)) : FnOKs P cx.gl f (specD sh c r) := by
 refine FnOKs_owes hcx hsl hf hb hn fun args ps rs hs hp => ?_
 simp only [specD] at hs
 split at hs
 case h_2 => cases hs
 rename_i x
 split at hs
 case h_2 => cases hs
 rename_i p n g hx
 simp only [Option.some.injEq, Prod.mk.injEq] at hs
 obtain ⟨rfl, rfl⟩ := hs
 obtain ⟨o1, o2⟩ := Ok.append.1 hp
 obtain ⟨a, cap, k1, k2⟩ := asDg_canon hx o1
 refine ⟨iv a n cap g, N, [xsI a n cap .u64 g], fun ρ => by simp only [List.map_cons, List.map_nil, k1 ρ], fun fz ha z hz => ?_, hr n g, h a n cap g o2⟩
 simp only [List.mem_singleton] at hz
 subst hz
 exact k2 fz (ha x (by simp))
theorem FnOKs_DD (hcx : CxOK P cx) (hsl : ∀ p ∈ sl, FnOKs P cx.gl p.1 p.2) (hf : P.funcs[f]? = some fn) (hb : fn.body.isSome = true) (hn : (fn.name == "runtime.NumGoroutine") = false) {sh : Bool} {c : Nat → (Nat → Int) → Nat → (Nat → Int) → List Prop} {r : Nat → (Nat → Int) → Nat → (Nat → Int) → List RS} {iv : Option Addr → Nat → Nat → (Nat → Int) → Option Addr → Nat → Nat → (Nat → Int) → List (Nat × Hint)} {N : Nat} (hr : ∀ n f m g, ∀ x ∈ r n f m g, x.closed)
  (h : ∀ a n cap g a' n' cap' g', Ok (c n g n' g') → OwesR P cx sl (iv a n cap g a' n' cap' g') N fn [xsI a n cap .u64 g, xsI a' n' cap' .u64 g'] sh (r n g n' g')) : FnOKs P cx.gl f (specDD sh c r) := by
 refine FnOKs_owes hcx hsl hf hb hn fun args ps rs hs hp => ?_
 simp only [specDD] at hs
 split at hs
 case h_2 => cases hs
 rename_i x y
 split at hs
 case h_2 => cases hs
 rename_i p n g q n' g' hx hy
 simp only [Option.some.injEq, Prod.mk.injEq] at hs
 obtain ⟨rfl, rfl⟩ := hs
 obtain ⟨o1, o23⟩ := Ok.append.1 hp
 obtain ⟨o2, o3⟩ := Ok.append.1 o23
 obtain ⟨a, cap, k1, k2⟩ := asDg_canon hx o1
 obtain ⟨a', cap', k1', k2'⟩ := asDg_canon hy o2
 refine ⟨iv a n cap g a' n' cap' g', N, [xsI a n cap .u64 g, xsI a' n' cap' .u64 g'], fun ρ => by simp only [List.map_cons, List.map_nil, k1 ρ, k1' ρ], fun fz ha z hz => ?_, hr n g n' g', h a n cap g a' n' cap' g' o3⟩
 simp only [List.mem_cons, List.not_mem_nil, or_false] at hz
 rcases hz with rfl | rfl
 ·exact k2 fz (ha x (by simp))
 ·exact k2' fz (ha y (by simp))
theorem bnd_Un {n : Env} (a : Nat) : (SA.agg [SK.u a]).bnd n := by
 intro k hk
 simp only [List.mem_singleton] at hk
 subst hk
 trivial
theorem FnOKs_UR (hcx : CxOK P cx) (hsl : ∀ p ∈ sl, FnOKs P cx.gl p.1 p.2) (hf : P.funcs[f]? = some fn) (hb : fn.body.isSome = true) (hn : (fn.name == "runtime.NumGoroutine") = false) {r : Nat → List RS} {iv : Nat → List (Nat × Hint)} {N : Nat} (hr : ∀ a, ∀ x ∈ r a, x.closed)
  (h : ∀ a, OwesR P cx sl (iv a) N fn [sU a] false (r a)) : FnOKs P cx.gl f (specUR r) := by
 refine FnOKs_owes hcx hsl hf hb hn fun args ps rs hs hp => ?_
 simp only [specUR] at hs
 split at hs
 case h_2 => cases hs
 rename_i x
 split at hs
 case h_2 => cases hs
 rename_i p a hx
 simp only [Option.some.injEq, Prod.mk.injEq] at hs
 obtain ⟨rfl, rfl⟩ := hs
 refine ⟨iv a, N, [sU a], fun ρ => by simp only [List.map_cons, List.map_nil, asU_canon hx hp ρ], fun fz _ z hz => ?_, hr a, h a⟩
 simp only [List.mem_singleton] at hz
 subst hz
 exact bnd_Un a
theorem FnOKs_DU (hcx : CxOK P cx) (hsl : ∀ p ∈ sl, FnOKs P cx.gl p.1 p.2) (hf : P.funcs[f]? = some fn) (hb : fn.body.isSome = true) (hn : (fn.name == "runtime.NumGoroutine") = false) {c : Nat → (Nat → Int) → Nat → List Prop} {r : Nat → (Nat → Int) → Nat → List RS} {iv : Option Addr → Nat → Nat → (Nat → Int) → Nat → List (Nat × Hint)} {N : Nat} (hr : ∀ n f m, ∀ x ∈ r n f m, x.closed)
  (h : ∀ a n cap g m, Ok (c n g m) → OwesR P cx sl (iv a n cap g m) N fn [xsI a n cap .u64 g, sU m] false (r n g m)) : FnOKs P cx.gl f (specDU c r) := by
 refine FnOKs_owes hcx hsl hf hb hn fun args ps rs hs hp => ?_
 simp only [specDU] at hs
 split at hs
 case h_2 => cases hs
 rename_i x y
 split at hs
 case h_2 => cases hs
 rename_i p n g q m hx hy
 simp only [Option.some.injEq, Prod.mk.injEq] at hs
 obtain ⟨rfl, rfl⟩ := hs
 obtain ⟨o1, o23⟩ := Ok.append.1 hp
 obtain ⟨o2, o3⟩ := Ok.append.1 o23
 obtain ⟨a, cap, k1, k2⟩ := asDg_canon hx o1
 refine ⟨iv a n cap g m, N, [xsI a n cap .u64 g, sU m], fun ρ => by simp only [List.map_cons, List.map_nil, k1 ρ, asU_canon hy o2 ρ], fun fz ha z hz => ?_, hr n g m, h a n cap g m o3⟩
 simp only [List.mem_cons, List.not_mem_nil, or_false] at hz
 rcases hz with rfl | rfl
 ·exact k2 fz (ha x (by simp))
 ·exact bnd_Un m
end
def vz (f : Nat → Int) : Nat → Int
 | 0 => 0
 | n + 1 => vz f n + f n * 4294967296 ^ n
def dg (X : Nat) (i : Nat) : Int := ((X / 4294967296 ^ i % 4294967296 : Nat) : Int)
structure dgs (n : Nat) (f : Nat → Int) : Prop where
 at' : ∀ i, i < n → 0 ≤ f i ∧ f i < 4294967296
def vn (n : Nat) (f : Nat → Int) : Nat := (vz f n).toNat
theorem vz_congr {f g : Nat → Int} : ∀ {n : Nat}, (∀ i, i < n → f i = g i) → vz f n = vz g n
 | 0, _ => rfl
 | n + 1, h => by simp only [vz]; rw [vz_congr fun i hi => h i (by omega), h n (by omega)]
theorem pw_pos (n : Nat) : (0 : Int) < 4294967296 ^ n := Int.pow_pos (by decide)
theorem vz_bound {f : Nat → Int} : ∀ {n : Nat}, dgs n f → 0 ≤ vz f n ∧ vz f n < 4294967296 ^ n
 | 0, _ => by simp [vz]
 | n + 1, h => by
  obtain ⟨h1, h2⟩ := vz_bound (n := n) ⟨fun i hi => h.at' i (by omega)⟩
  obtain ⟨k1, k2⟩ := h.at' n (by omega)
  have hp := pw_pos n
  simp only [vz, Int.pow_succ]
  refine ⟨Int.add_nonneg h1 (Int.mul_nonneg k1 (Int.le_of_lt hp)), ?_⟩
  have : f n * 4294967296 ^ n ≤ 4294967295 * 4294967296 ^ n := Int.mul_le_mul_of_nonneg_right (by omega) (Int.le_of_lt hp)
  omega
theorem vz_upd {f : Nat → Int} {k : Nat} {v : Int} : ∀ {n : Nat}, k < n → vz (fun j => if j = k then v else f j) n = vz f n + (v - f k) * 4294967296 ^ k
 | 0, h => by omega
 | n + 1, h => by
  simp only [vz]
  by_cases e : n = k
  ·subst e
   rw [if_pos rfl, vz_congr (g := f) fun i hi => if_neg (by omega), Int.sub_mul]
   omega
  ·rw [if_neg e, vz_upd (n := n) (by omega)]
   omega
theorem vn_cast {f : Nat → Int} {n : Nat} (h : dgs n f) : ((vn n f : Nat) : Int) = vz f n := by
 unfold vn
 have := (vz_bound h).1
 omega
theorem vn_lt {f : Nat → Int} {n : Nat} (h : dgs n f) : vn n f < 4294967296 ^ n := by
 have h1 := vn_cast h
 have h2 := (vz_bound h).2
 have : ((vn n f : Nat) : Int) < ((4294967296 ^ n : Nat) : Int) := by rw [h1, Int.natCast_pow]; exact h2
 omega
theorem dgs_dg (n X : Nat) : dgs n (dg X) := ⟨fun i _ => by
 unfold dg
 have := Nat.mod_lt (X / 4294967296 ^ i) (show 0 < 4294967296 by decide)
 omega⟩
theorem vz_dg (X : Nat) : ∀ n, vz (dg X) n = ((X % 4294967296 ^ n : Nat) : Int)
 | 0 => by simp [vz, Nat.mod_one]
 | n + 1 => by
  simp only [vz, vz_dg X n, dg]
  rw [Nat.pow_succ, Nat.mod_mul]
  have : ((4294967296 ^ n : Nat) : Int) = (4294967296 : Int) ^ n := Int.natCast_pow _ _
  rw [← this, Int.mul_comm]
  exact (Int.natCast_add _ _).symm ▸ (Int.natCast_mul _ _).symm ▸ rfl
theorem vn_dg (n X : Nat) : vn n (dg X) = X % 4294967296 ^ n := by
 unfold vn
 rw [vz_dg]
 exact Int.toNat_natCast _
theorem vn_dg' {n X : Nat} (h : X < 4294967296 ^ n) : vn n (dg X) = X := by rw [vn_dg, Nat.mod_eq_of_lt h]
theorem vn_congr {f g : Nat → Int} {n : Nat} (h : ∀ i, i < n → f i = g i) : vn n f = vn n g := by unfold vn; rw [vz_congr h]
theorem vz_step {f : Nat → Int} {n : Nat} (h : dgs (n + 1) f) : (vn (n + 1) f) / 4294967296 ^ n = (f n).toNat ∧ (vn (n + 1) f) % 4294967296 ^ n = vn n f := by
 have hn : dgs n f := ⟨fun i hi => h.at' i (by omega)⟩
 have e : vn (n + 1) f = vn n f + 4294967296 ^ n * (f n).toNat := by
  have h1 := vn_cast h
  have h2 := vn_cast hn
  have h3 := (h.at' n (by omega)).1
  have : ((vn (n + 1) f : Nat) : Int) = ((vn n f + 4294967296 ^ n * (f n).toNat : Nat) : Int) := by
   rw [h1, Int.natCast_add, Int.natCast_mul, h2, Int.natCast_pow, Int.toNat_of_nonneg h3, Int.mul_comm]
   rfl
  omega
 have hl := vn_lt hn
 rw [e]
 exact ⟨by rw [Nat.add_mul_div_left _ _ (Nat.pow_pos (by decide)), Nat.div_eq_of_lt hl, Nat.zero_add], by rw [Nat.add_mul_mod_self_left, Nat.mod_eq_of_lt hl]⟩
theorem dg_mod {X n i : Nat} (h : i < n) : dg (X % 4294967296 ^ n) i = dg X i := by
 unfold dg
 have e : (4294967296 : Nat) ^ n = 4294967296 ^ i * (4294967296 * 4294967296 ^ (n - i - 1)) := by
  rw [← Nat.pow_succ', ← Nat.pow_add]
  congr 1
  omega
 rw [e, Nat.mod_mul_right_div_self, Nat.mod_mul_right_mod]
theorem dg_vn {f : Nat → Int} : ∀ {n : Nat}, dgs n f → ∀ i, i < n → dg (vn n f) i = f i
 | 0, _, i, hi => by omega
 | n + 1, h, i, hi => by
  obtain ⟨h1, h2⟩ := vz_step h
  by_cases e : i = n
  ·subst e
   obtain ⟨k1, k2⟩ := h.at' i (by omega)
   unfold dg
   rw [h1, Nat.mod_eq_of_lt (by omega)]
   omega
  ·rw [← dg_mod (n := n) (by omega), h2]
   exact dg_vn ⟨fun i hi => h.at' i (by omega)⟩ i (by omega)
theorem dg_eq {f : Nat → Int} {n X : Nat} (h : dgs n f) (hX : vz f n = (X : Int)) : ∀ i, i < n → f i = dg X i := by
 have : vn n f = X := by unfold vn; omega
 intro i hi
 rw [← this, dg_vn h i hi]
end Go.Sx
end
