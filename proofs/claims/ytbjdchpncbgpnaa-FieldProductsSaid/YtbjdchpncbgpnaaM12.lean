/-
  Texts: P20, P21, P22, V64, P108, V8, V9, P23, P26, P27, V65, P109.
-/
import Derived.Test.YtbjdchpncbgpnaaM1
import Derived.Test.YtbjdchpncbgpnaaM2
import Derived.Test.YtbjdchpncbgpnaaM3
import Derived.Test.YtbjdchpncbgpnaaM4
import Derived.Test.YtbjdchpncbgpnaaM5
import Derived.Test.YtbjdchpncbgpnaaM6
import Derived.Test.YtbjdchpncbgpnaaM7
import Derived.Test.YtbjdchpncbgpnaaM8
import Derived.Test.YtbjdchpncbgpnaaM9
import Derived.Test.YtbjdchpncbgpnaaM10
import Derived.Test.YtbjdchpncbgpnaaM11
section
/-
  Quotients: one digit of a long division by four words.
-/
namespace Go.Proofs.Ytbjdchpncbgpnaa
open Go.Sx

/-! ## How far a guess is off -/
theorem knuth {W K r3 r2 rr b3 bl B R g : Nat} (hB : B = b3 * K + bl) (hbl : bl < K) (hR : R = (r3 * W + r2) * K + rr) (hrr : rr < K) (hlt : R < B * W) (hb : W ≤ 2 * b3) (hr2 : r2 < W)
    (hg : g = if r3 < b3 then (r3 * W + r2) / b3 else W - 1) : R / B ≤ g ∧ g ≤ R / B + 2 ∧ g < W := by
  have hW : 0 < W := by omega
  have hb0 : 0 < b3 := by omega
  have hK : 0 < K := by omega
  have hBp : 0 < B := by
    have := Nat.mul_pos hb0 hK
    omega
  have hQ : R / B < W := by
    rw [Nat.div_lt_iff_lt_mul hBp, Nat.mul_comm]
    exact hlt
  have hgW : g < W := by
    rw [hg]
    split
    · rename_i h
      rw [Nat.div_lt_iff_lt_mul hb0, Nat.mul_comm W]
      have := Nat.mul_le_mul_right W (show r3 + 1 ≤ b3 from h)
      rw [Nat.add_mul, Nat.one_mul] at this
      omega
    · omega
  have hgb : g * b3 ≤ r3 * W + r2 := by
    rw [hg]
    split
    · exact Nat.div_mul_le_self _ _
    · rename_i h
      have h1 := Nat.mul_le_mul (show W - 1 ≤ W by omega) (show b3 ≤ r3 by omega)
      rw [Nat.mul_comm W r3] at h1
      omega
  have hqb : R / B * b3 ≤ r3 * W + r2 := by
    have h1 := Nat.div_mul_le_self R B
    generalize R / B = Q at *
    have h2 : Q * b3 * K ≤ R := by
      have : Q * B = Q * b3 * K + Q * bl := by rw [hB, Nat.mul_add, Nat.mul_assoc]
      omega
    have h3 : Q * b3 * K < (r3 * W + r2 + 1) * K := by
      rw [Nat.add_mul (r3 * W + r2), Nat.one_mul]
      omega
    exact Nat.lt_succ_iff.1 (Nat.lt_of_mul_lt_mul_right h3)
  refine ⟨?_, ?_, hgW⟩
  · rw [hg]
    split
    · rw [Nat.le_div_iff_mul_le hb0]
      exact hqb
    · omega
  · have d := Nat.div_add_mod R B
    have m := Nat.mod_lt R hBp
    have h1 : g * B = g * b3 * K + g * bl := by rw [hB, Nat.mul_add, Nat.mul_assoc]
    have h2 := Nat.mul_le_mul_right K hgb
    have h3 : g * bl ≤ W * K := Nat.mul_le_mul (by omega) (by omega)
    have h3' : g * bl < W * K := by
      rcases Nat.eq_zero_or_pos bl with e | e
      · rw [e, Nat.mul_zero]; exact Nat.mul_pos hW hK
      · exact Nat.lt_of_lt_of_le (Nat.mul_lt_mul_of_pos_right hgW e) (Nat.mul_le_mul_left W (by omega))
    have h4 := Nat.mul_le_mul_right K hb
    have h5 : 2 * b3 * K = 2 * (b3 * K) := Nat.mul_assoc _ _ _
    generalize R / B = Q at *
    have h6 : g * B < (Q + 3) * B := by
      rw [Nat.add_mul, Nat.mul_comm Q B]
      generalize g * b3 * K = A at *
      generalize (r3 * W + r2) * K = C at *
      generalize b3 * K = D at *
      generalize B * Q = E at *
      omega
    have := Nat.lt_of_mul_lt_mul_right h6
    omega

theorem top_of {r3 x6 x7 hi mrem Y P G : Nat} (h1 : P + mrem = r3 * 115792089237316195423570985008687907853269984665640564039457584007913129639936 + x6) (h2 : G = P + Y) (h3 : 115792089237316195423570985008687907853269984665640564039457584007913129639936 * hi + x7 = G) (h4 : x7 < 115792089237316195423570985008687907853269984665640564039457584007913129639936) (h5 : x6 < 115792089237316195423570985008687907853269984665640564039457584007913129639936) (h6 : hi < 18446744073709551616) (h7 : Y ≤ 2 * 115792089237316195423570985008687907853269984665640564039457584007913129639936) (h8 : mrem < 115792089237316195423570985008687907853269984665640564039457584007913129639936) (h9 : r3 < 18446744073709551616) :
    IntKind.u64.wrap ((r3 : Int) - IntKind.u64.wrap ((hi : Int) + if x6 < x7 then 1 else 0)) = (((115792089237316195423570985008687907853269984665640564039457584007913129639936 * 18446744073709551616 + mrem - Y) / 115792089237316195423570985008687907853269984665640564039457584007913129639936 % 18446744073709551616 : Nat) : Int) ∧ (x6 + 115792089237316195423570985008687907853269984665640564039457584007913129639936 - x7) % 115792089237316195423570985008687907853269984665640564039457584007913129639936 = (115792089237316195423570985008687907853269984665640564039457584007913129639936 * 18446744073709551616 + mrem - Y) % 115792089237316195423570985008687907853269984665640564039457584007913129639936 := by
  simp only [wrap_mod]
  split
  · rename_i h
    have e : 115792089237316195423570985008687907853269984665640564039457584007913129639936 * 18446744073709551616 + mrem - Y = 115792089237316195423570985008687907853269984665640564039457584007913129639936 * (18446744073709551616 + r3 - hi - 1) + (115792089237316195423570985008687907853269984665640564039457584007913129639936 + x6 - x7) := by omega
    rw [e]
    omega
  · rename_i h
    have e : 115792089237316195423570985008687907853269984665640564039457584007913129639936 * 18446744073709551616 + mrem - Y = 115792089237316195423570985008687907853269984665640564039457584007913129639936 * (18446744073709551616 + r3 - hi) + (x6 - x7) := by omega
    rw [e]
    omega
theorem top_step {mrem B e : Nat} (h1 : mrem < B) (h2 : B < 115792089237316195423570985008687907853269984665640564039457584007913129639936) (he : e ≤ 2) (h0 : e ≠ 0) :
    IntKind.u64.wrap ((((115792089237316195423570985008687907853269984665640564039457584007913129639936 * 18446744073709551616 + mrem - e * B) / 115792089237316195423570985008687907853269984665640564039457584007913129639936 % 18446744073709551616 : Nat) : Int) + (((115792089237316195423570985008687907853269984665640564039457584007913129639936 * 18446744073709551616 + mrem - e * B) % 115792089237316195423570985008687907853269984665640564039457584007913129639936 + B) / 115792089237316195423570985008687907853269984665640564039457584007913129639936 : Nat)) = (((115792089237316195423570985008687907853269984665640564039457584007913129639936 * 18446744073709551616 + mrem - (e - 1) * B) / 115792089237316195423570985008687907853269984665640564039457584007913129639936 % 18446744073709551616 : Nat) : Int) ∧ (115792089237316195423570985008687907853269984665640564039457584007913129639936 * 18446744073709551616 + mrem - e * B + B) = (115792089237316195423570985008687907853269984665640564039457584007913129639936 * 18446744073709551616 + mrem - (e - 1) * B) ∧ (115792089237316195423570985008687907853269984665640564039457584007913129639936 * 18446744073709551616 + mrem - e * B) / 115792089237316195423570985008687907853269984665640564039457584007913129639936 % 18446744073709551616 ≠ 0 := by
  simp only [wrap_mod]
  rcases (show e = 1 ∨ e = 2 by omega) with rfl | rfl
  · refine ⟨?_, ?_, ?_⟩ <;> omega
  · refine ⟨?_, ?_, ?_⟩ <;> omega
theorem top_zero {mrem B : Nat} (h1 : mrem < B) (h2 : B < 115792089237316195423570985008687907853269984665640564039457584007913129639936) : (115792089237316195423570985008687907853269984665640564039457584007913129639936 * 18446744073709551616 + mrem - 0 * B) / 115792089237316195423570985008687907853269984665640564039457584007913129639936 % 18446744073709551616 = 0 ∧ (115792089237316195423570985008687907853269984665640564039457584007913129639936 * 18446744073709551616 + mrem - 0 * B) % 115792089237316195423570985008687907853269984665640564039457584007913129639936 = mrem := by omega
def gN (h l y : Nat) : Nat := if h < y then (h * 18446744073709551616 + l) / y else 18446744073709551616 - 1
theorem guess_nat (h l y : Nat) : guessN (h : Int) (l : Int) (y : Int) = ((gN h l y : Nat) : Int) := by
  unfold guessN gN
  rcases Nat.lt_or_ge h y with c | c
  · rw [if_pos (by omega), if_pos c, Int.natCast_ediv, Int.natCast_add, Int.natCast_mul]
    rfl
  · rw [if_neg (by omega), if_neg (by omega)]
    rfl

theorem kn_all {r0 r1 r2 r3 y0 y1 y2 y3 X R B : Nat} (b0 : r0 < 18446744073709551616) (b1 : r1 < 18446744073709551616) (b2 : r2 < 18446744073709551616) (c0 : y0 < 18446744073709551616) (c1 : y1 < 18446744073709551616) (c2 : y2 < 18446744073709551616) (bX : X < 18446744073709551616)
    (hB : B = ((y3 * 18446744073709551616 + y2) * 18446744073709551616 + y1) * 18446744073709551616 + y0) (hR : R = (((r3 * 18446744073709551616 + r2) * 18446744073709551616 + r1) * 18446744073709551616 + r0) * 18446744073709551616 + X) (hrb : ((r3 * 18446744073709551616 + r2) * 18446744073709551616 + r1) * 18446744073709551616 + r0 < B) (hbt : 115792089237316195423570985008687907853269984665640564039457584007913129639936 ≤ 2 * B) :
    B = y3 * 6277101735386680763835789423207666416102355444464034512896 + ((y2 * 18446744073709551616 + y1) * 18446744073709551616 + y0) ∧ (y2 * 18446744073709551616 + y1) * 18446744073709551616 + y0 < 6277101735386680763835789423207666416102355444464034512896 ∧ R = (r3 * 18446744073709551616 + r2) * 6277101735386680763835789423207666416102355444464034512896 + ((r1 * 18446744073709551616 + r0) * 18446744073709551616 + X) ∧ (r1 * 18446744073709551616 + r0) * 18446744073709551616 + X < 6277101735386680763835789423207666416102355444464034512896 ∧ R < B * 18446744073709551616 ∧ 18446744073709551616 ≤ 2 * y3 ∧ R = r3 * 115792089237316195423570985008687907853269984665640564039457584007913129639936 + (((r2 * 18446744073709551616 + r1) * 18446744073709551616 + r0) * 18446744073709551616 + X) ∧ ((r2 * 18446744073709551616 + r1) * 18446744073709551616 + r0) * 18446744073709551616 + X < 115792089237316195423570985008687907853269984665640564039457584007913129639936 := by
  refine ⟨?_, ?_, ?_, ?_, ?_, ?_, ?_, ?_⟩
  · clear hR hrb hbt b0 b1 b2 bX; exact Nat.le_antisymm (by omega) (by omega)
  · clear hR hrb hbt hB b0 b1 b2 bX; omega
  · clear hB hrb hbt; exact Nat.le_antisymm (by omega) (by omega)
  · clear hR hB hrb hbt; omega
  · clear hB hbt; omega
  · clear hR hrb; omega
  · clear hB hrb hbt; exact Nat.le_antisymm (by omega) (by omega)
  · clear hR hB hrb hbt; omega

end Go.Proofs.Ytbjdchpncbgpnaa
end

section
/-
  Quotients: the long division, and the law.
-/
namespace Go.Proofs.Ytbjdchpncbgpnaa
open Go.Sx

theorem M_pow : M256 = 2 ^ 256 := rfl
theorem horner_top {P x c0 c1 c2 c3 : Nat} (h : M256 * x + (((c3 * 18446744073709551616 + c2) * 18446744073709551616 + c1) * 18446744073709551616 + c0) = P) : P = (((x * 18446744073709551616 + c3) * 18446744073709551616 + c2) * 18446744073709551616 + c1) * 18446744073709551616 + c0 := by
  rw [M_val] at h
  exact Nat.le_antisymm (by omega) (by omega)
end Go.Proofs.Ytbjdchpncbgpnaa
end

section
/-
  Quotients: DivMod, and the law.
-/
namespace Go.Proofs.Ytbjdchpncbgpnaa
open Go.Sx

end Go.Proofs.Ytbjdchpncbgpnaa
end

section
/-
  Laws of wide numbers, and the reference's by a modulus: reckoned by the kernel. (Laid by program.)
-/
namespace Go.Proofs.Ytbjdchpncbgpnaa
open Go Go.Sx Go.RowKit
set_option maxRecDepth 100000
end Go.Proofs.Ytbjdchpncbgpnaa
end

section
/-
  Laws of wide sums and quotients.
-/
namespace Go.Proofs.Ytbjdchpncbgpnaa
open Go Go.Sx Go.RowKit
theorem conj_self (x : Nat) : conj [x == x] = true := by simp [conj]
end Go.Proofs.Ytbjdchpncbgpnaa
end

section
/-
  Package field: reckoned by the kernel. (Laid by program.)
-/
namespace Go.Proofs.Ytbjdchpncbgpnaa
open Go.Sx
set_option maxRecDepth 100000
def cxFless : Cx := [(75, specWW mul64G), (68, specAdd64), (69, specSub64)]
def flessG (a : Nat) (q : Int) (b : Nat) : SV := .tup [sU (a % M256 + M256 - b % M256 * q.toNat % M256), sI .u64 (((b % M256 * q.toNat / M256 : Nat) : Int) + if a % M256 < b % M256 * q.toNat % M256 then 1 else 0)]
def flessC (_ : Nat) (q : Int) (_ : Nat) : List Prop := [w64ok q]
def invBring (r : Nat) (x : Int) (b : Nat) : Inv where
  X := Nat
  tm e := slotsAt 48 [(0, .one (sU r)), (1, .one (sI .u64 x)), (2, .one (sU b)), (3, .one (.sc (.ptr 0 0))), (5, .one (.sc (.ptr 1 0))), (6, .one (.sc (.ptr 2 0))), (7, .one (sI .u64 ((digAt r x b e / M256 % 18446744073709551616 : Nat) : Int)))]
  ob e := [.cells 24 [.u (digAt r x b e)] 0, .cells 24 [.u b] 0, .cells 24 [.c (.num .u64 0), .c (.num .u64 0), .c (.num .u64 0), .c (.num .u64 0)] 0]
  holds e := e ≤ 2
  less e := e
def bringG (r : Nat) (x : Int) (b : Nat) : SV := .one (sU (digR r x % (b % M256)))
def cxBring : Cx := [(96, specWWW guessC guessG), (97, specUWU flessC flessG), (13, specUU addG)]
def restC (a b m : Nat) : List Prop := [a % M256 < m % M256, b % M256 < m % M256, M256 ≤ 2 * (m % M256)]
def restG (a b m : Nat) : SV := .one (sU (a % M256 * (b % M256) % (m % M256)))
def cxRest : Cx := [(82, specUU mulG), (92, specUWU digC bringG)]
def bitC (n : Int) : List Prop := [0 ≤ n ∧ n ≤ 255]
def bitG (n : Int) : SV := .one (sU (2 ^ n.toNat))
def prodC (a b m : Nat) : List Prop := [a % M256 < m % M256, b % M256 < m % M256]
def prodG (a b m : Nat) : SV := .one (sU (a % M256 * (b % M256) % (m % M256)))
def cxProd : Cx := [(80, specU noughtsG), (81, specUUU restC restG), (83, specI bitC bitG), (82, specUU mulG)]
-- VC vc_fguess HASH 45e50bdf6c3197c8
theorem vc_fguess (h l y : Int) :
    Owes Try.prog cxGuess [] 100 Try.f96 [sI .u64 h, sI .u64 l, sI .u64 y] (guessG h l y) =
    ((Decidable.decide (h ≥ y) = Bool.true → (18446744073709551615 : Int) = guessN h l y) ∧ (Decidable.decide (h ≥ y) = Bool.false → ((0 : Int) ≤ h ∧ h < (18446744073709551616 : Int)) ∧ ((0 : Int) ≤ l ∧ l < (18446744073709551616 : Int)) ∧ ((0 : Int) ≤ y ∧ y < (18446744073709551616 : Int)) ∧ h < y ∧ (h * (18446744073709551616 : Int) + l) / y = guessN h l y)) := by kernel_rfl
-- END VC
-- VC vc_fnoughts HASH 8ba5090333e0a68e
theorem vc_fnoughts (a : Nat) :
    Owes Try.prog cxNoughts [] 100 Try.f80 [sU a] (noughtsG a) =
    (let x1 : Int := Go.IntKind.i64.wrap ((0 : Int) + ((64 : Int) - Go.Sx.lenN (Go.Sx.limb a (3 : Nat)))); let x2 : Int := (↑((256 : Nat) - bitsN (a % Go.Sx.M256)) : Int); let x3 : Int := Go.IntKind.i64.wrap (x1 + ((64 : Int) - Go.Sx.lenN (Go.Sx.limb a (2 : Nat)))); let x4 : Int := Go.IntKind.i64.wrap (x3 + ((64 : Int) - Go.Sx.lenN (Go.Sx.limb a (1 : Nat)))); ((0 : Int) ≤ Go.Sx.limb a (3 : Nat) ∧ Go.Sx.limb a (3 : Nat) < (18446744073709551616 : Int)) ∧ ((Go.Sx.limb a (3 : Nat) != (0 : Int)) = Bool.true → x1 = x2) ∧ ((Go.Sx.limb a (3 : Nat) != (0 : Int)) = Bool.false → ((0 : Int) ≤ Go.Sx.limb a (2 : Nat) ∧ Go.Sx.limb a (2 : Nat) < (18446744073709551616 : Int)) ∧ ((Go.Sx.limb a (2 : Nat) != (0 : Int)) = Bool.true → x3 = x2) ∧ ((Go.Sx.limb a (2 : Nat) != (0 : Int)) = Bool.false → ((0 : Int) ≤ Go.Sx.limb a (1 : Nat) ∧ Go.Sx.limb a (1 : Nat) < (18446744073709551616 : Int)) ∧ ((Go.Sx.limb a (1 : Nat) != (0 : Int)) = Bool.true → x4 = x2) ∧ ((Go.Sx.limb a (1 : Nat) != (0 : Int)) = Bool.false → ((0 : Int) ≤ Go.Sx.limb a (0 : Nat) ∧ Go.Sx.limb a (0 : Nat) < (18446744073709551616 : Int)) ∧ ((Go.Sx.limb a (0 : Nat) != (0 : Int)) = Bool.true → Go.IntKind.i64.wrap (x4 + ((64 : Int) - Go.Sx.lenN (Go.Sx.limb a (0 : Nat)))) = x2) ∧ ((Go.Sx.limb a (0 : Nat) != (0 : Int)) = Bool.false → Go.IntKind.i64.wrap (x4 + ((64 : Int) - Go.Sx.lenN (Go.Sx.limb a (0 : Nat)))) = x2))))) := by kernel_rfl
-- END VC
-- VC vc_fless HASH 3e51a4d87bf4bc9d
theorem vc_fless (a : Nat) (q : Int) (b : Nat) :
    Owes Try.prog cxFless [] 100 Try.f97 [sU a, sI .u64 q, sU b] (flessG a q b) =
    (let x1 : Int := Go.Sx.limb b (0 : Nat) * q; let x2 : Int := x1 % (18446744073709551616 : Int); let x3 : Int := x2 + (0 : Int) + (0 : Int); let x4 : Int := x3 % (18446744073709551616 : Int); let x5 : Int := Go.Sx.limb b (1 : Nat) * q; let x6 : Int := x5 % (18446744073709551616 : Int); let x7 : Int := Go.Sx.limb a (0 : Nat) - x4 - (0 : Int); let x8 : Int := Go.IntKind.u64.wrap (Go.IntKind.u64.wrap (x1 / (18446744073709551616 : Int) + x3 / (18446744073709551616 : Int)) + -(x7 / (18446744073709551616 : Int))); let x9 : Int := x6 + x8 + (0 : Int); let x10 : Int := x9 % (18446744073709551616 : Int); let x11 : Int := Go.Sx.limb b (2 : Nat) * q; let x12 : Int := x11 % (18446744073709551616 : Int); let x13 : Int := Go.Sx.limb a (1 : Nat) - x10 - (0 : Int); let x14 : Int := Go.IntKind.u64.wrap (Go.IntKind.u64.wrap (x5 / (18446744073709551616 : Int) + x9 / (18446744073709551616 : Int)) + -(x13 / (18446744073709551616 : Int))); let x15 : Int := x12 + x14 + (0 : Int); let x16 : Int := x15 % (18446744073709551616 : Int); let x17 : Int := Go.Sx.limb b (3 : Nat) * q; let x18 : Int := x17 % (18446744073709551616 : Int); let x19 : Int := Go.Sx.limb a (2 : Nat) - x16 - (0 : Int); let x20 : Int := Go.IntKind.u64.wrap (Go.IntKind.u64.wrap (x11 / (18446744073709551616 : Int) + x15 / (18446744073709551616 : Int)) + -(x19 / (18446744073709551616 : Int))); let x21 : Int := x18 + x20 + (0 : Int); let x22 : Int := x21 % (18446744073709551616 : Int); let x23 : Int := x7 % (18446744073709551616 : Int); let x24 : Int := x13 % (18446744073709551616 : Int); let x25 : Int := x19 % (18446744073709551616 : Int); let x26 : Int := Go.Sx.limb a (3 : Nat) - x22 - (0 : Int); let x27 : Int := x26 % (18446744073709551616 : Int); let x28 : Nat := a % Go.Sx.M256; let x29 : Nat := b % Go.Sx.M256 * q.toNat; let x30 : Nat := x29 % Go.Sx.M256; ((0 : Int) ≤ Go.Sx.limb b (0 : Nat) ∧ Go.Sx.limb b (0 : Nat) < (18446744073709551616 : Int)) ∧ ((0 : Int) ≤ q ∧ q < (18446744073709551616 : Int)) ∧ (0 : Int) ≤ x2 ∧ (0 : Int) ≤ (0 : Int) ∧ ((0 : Int) ≤ (0 : Int) ∧ (0 : Int) ≤ (1 : Int)) ∧ ((0 : Int) ≤ Go.Sx.limb a (0 : Nat) ∧ Go.Sx.limb a (0 : Nat) < (18446744073709551616 : Int)) ∧ ((0 : Int) ≤ x4 ∧ x4 < (18446744073709551616 : Int)) ∧ ((0 : Int) ≤ (0 : Int) ∧ (0 : Int) ≤ (1 : Int)) ∧ ((0 : Int) ≤ Go.Sx.limb b (1 : Nat) ∧ Go.Sx.limb b (1 : Nat) < (18446744073709551616 : Int)) ∧ ((0 : Int) ≤ q ∧ q < (18446744073709551616 : Int)) ∧ (0 : Int) ≤ x6 ∧ (0 : Int) ≤ x8 ∧ ((0 : Int) ≤ (0 : Int) ∧ (0 : Int) ≤ (1 : Int)) ∧ ((0 : Int) ≤ Go.Sx.limb a (1 : Nat) ∧ Go.Sx.limb a (1 : Nat) < (18446744073709551616 : Int)) ∧ ((0 : Int) ≤ x10 ∧ x10 < (18446744073709551616 : Int)) ∧ ((0 : Int) ≤ (0 : Int) ∧ (0 : Int) ≤ (1 : Int)) ∧ ((0 : Int) ≤ Go.Sx.limb b (2 : Nat) ∧ Go.Sx.limb b (2 : Nat) < (18446744073709551616 : Int)) ∧ ((0 : Int) ≤ q ∧ q < (18446744073709551616 : Int)) ∧ (0 : Int) ≤ x12 ∧ (0 : Int) ≤ x14 ∧ ((0 : Int) ≤ (0 : Int) ∧ (0 : Int) ≤ (1 : Int)) ∧ ((0 : Int) ≤ Go.Sx.limb a (2 : Nat) ∧ Go.Sx.limb a (2 : Nat) < (18446744073709551616 : Int)) ∧ ((0 : Int) ≤ x16 ∧ x16 < (18446744073709551616 : Int)) ∧ ((0 : Int) ≤ (0 : Int) ∧ (0 : Int) ≤ (1 : Int)) ∧ ((0 : Int) ≤ Go.Sx.limb b (3 : Nat) ∧ Go.Sx.limb b (3 : Nat) < (18446744073709551616 : Int)) ∧ ((0 : Int) ≤ q ∧ q < (18446744073709551616 : Int)) ∧ (0 : Int) ≤ x18 ∧ (0 : Int) ≤ x20 ∧ ((0 : Int) ≤ (0 : Int) ∧ (0 : Int) ≤ (1 : Int)) ∧ ((0 : Int) ≤ Go.Sx.limb a (3 : Nat) ∧ Go.Sx.limb a (3 : Nat) < (18446744073709551616 : Int)) ∧ ((0 : Int) ≤ x22 ∧ x22 < (18446744073709551616 : Int)) ∧ ((0 : Int) ≤ (0 : Int) ∧ (0 : Int) ≤ (1 : Int)) ∧ (((0 : Int) ≤ x23 ∧ x23 < (18446744073709551616 : Int)) ∧ ((0 : Int) ≤ x24 ∧ x24 < (18446744073709551616 : Int)) ∧ ((0 : Int) ≤ x25 ∧ x25 < (18446744073709551616 : Int)) ∧ ((0 : Int) ≤ x27 ∧ x27 < (18446744073709551616 : Int)) ∧ Go.Sx.join x23 x24 x25 x27 % Go.Sx.M256 = (x28 + Go.Sx.M256 - x30) % Go.Sx.M256 ∧ True) ∧ Go.IntKind.u64.wrap (Go.IntKind.u64.wrap (x17 / (18446744073709551616 : Int) + x21 / (18446744073709551616 : Int)) + -(x26 / (18446744073709551616 : Int))) = (↑(x29 / Go.Sx.M256) : Int) + if x28 < x30 then (1 : Int) else (0 : Int)) := by kernel_rfl
-- END VC
-- VC vc_bring HASH 38325b855d33585d
theorem vc_bring (r : Nat) (x : Int) (b : Nat) :
    Owes Try.prog cxBring [(5, .inv (invBring r x b))] 100 Try.f92 [sU r, sI .u64 x, sU b] (bringG r x b) =
    (let x1 : Int := guessN (Go.Sx.limb r (3 : Nat)) (Go.Sx.limb r (2 : Nat)) (Go.Sx.limb b (3 : Nat)); let x2 : Nat := r % Go.Sx.M256; let x3 : Nat := b % Go.Sx.M256; let x4 : Nat := x3 * x1.toNat; let x5 : Nat := Go.Sx.join x (Go.Sx.limb r (0 : Nat)) (Go.Sx.limb r (1 : Nat)) (Go.Sx.limb r (2 : Nat)) % Go.Sx.M256; let x6 : Nat := x4 % Go.Sx.M256; ((0 : Int) ≤ Go.Sx.limb r (3 : Nat) ∧ Go.Sx.limb r (3 : Nat) < (18446744073709551616 : Int)) ∧ ((0 : Int) ≤ Go.Sx.limb r (2 : Nat) ∧ Go.Sx.limb r (2 : Nat) < (18446744073709551616 : Int)) ∧ ((0 : Int) ≤ Go.Sx.limb b (3 : Nat) ∧ Go.Sx.limb b (3 : Nat) < (18446744073709551616 : Int)) ∧ (0 : Int) < Go.Sx.limb b (3 : Nat) ∧ ((0 : Int) ≤ x ∧ x < (18446744073709551616 : Int)) ∧ ((0 : Int) ≤ Go.Sx.limb r (0 : Nat) ∧ Go.Sx.limb r (0 : Nat) < (18446744073709551616 : Int)) ∧ ((0 : Int) ≤ Go.Sx.limb r (1 : Nat) ∧ Go.Sx.limb r (1 : Nat) < (18446744073709551616 : Int)) ∧ ((0 : Int) ≤ Go.Sx.limb r (2 : Nat) ∧ Go.Sx.limb r (2 : Nat) < (18446744073709551616 : Int)) ∧ ((0 : Int) ≤ x1 ∧ x1 < (18446744073709551616 : Int)) ∧ (∀ (y : Nat), Go.Sx.closedB (Go.Sx.slotsAt (48 : Nat) [((0 : Nat), Go.Sx.SV.one (Go.Sx.sU r)), ((1 : Nat), Go.Sx.SV.one (Go.Sx.sI Go.IntKind.u64 x)), ((2 : Nat), Go.Sx.SV.one (Go.Sx.sU b)), ((3 : Nat), Go.Sx.SV.one (Go.Sx.SA.sc (Go.Sx.SC.ptr (0 : Nat) (0 : Nat)))), ((5 : Nat), Go.Sx.SV.one (Go.Sx.SA.sc (Go.Sx.SC.ptr (1 : Nat) (0 : Nat)))), ((6 : Nat), Go.Sx.SV.one (Go.Sx.SA.sc (Go.Sx.SC.ptr (2 : Nat) (0 : Nat)))), ((7 : Nat), Go.Sx.SV.one (Go.Sx.sI Go.IntKind.u64 (↑(digAt r x b y / Go.Sx.M256 % (18446744073709551616 : Nat)) : Int)))]) [Go.Sx.SO.cells (24 : Go.TypeId) [Go.Sx.SK.u (digAt r x b y)] (0 : Nat), Go.Sx.SO.cells (24 : Go.TypeId) [Go.Sx.SK.u b] (0 : Nat), Go.Sx.SO.cells (24 : Go.TypeId) [Go.Sx.SK.c (Go.Sx.SC.num Go.IntKind.u64 (0 : Int)), Go.Sx.SK.c (Go.Sx.SC.num Go.IntKind.u64 (0 : Int)), Go.Sx.SK.c (Go.Sx.SC.num Go.IntKind.u64 (0 : Int)), Go.Sx.SK.c (Go.Sx.SC.num Go.IntKind.u64 (0 : Int))] (0 : Nat)] = Bool.true) ∧ ∃ (y : Nat), y ≤ (2 : Nat) ∧ x2 = x2 ∧ x = x ∧ x3 = x3 ∧ Go.IntKind.u64.wrap (Go.Sx.limb r (3 : Nat) - ((↑(x4 / Go.Sx.M256) : Int) + if x5 < x6 then (1 : Int) else (0 : Int))) = (↑(digAt r x b y / Go.Sx.M256 % (18446744073709551616 : Nat)) : Int) ∧ (x5 + Go.Sx.M256 - x6) % Go.Sx.M256 = digAt r x b y % Go.Sx.M256 ∧ (0 : Nat) = (0 : Nat) ∧ x3 = x3 ∧ (0 : Nat) = (0 : Nat) ∧ (0 : Nat) = (0 : Nat) ∧ ∀ (y : Nat), y ≤ (2 : Nat) → (((↑(digAt r x b y / Go.Sx.M256 % (18446744073709551616 : Nat)) : Int) != (0 : Int)) = Bool.true → (Decidable.decide (Go.Sx.M256 ≤ digAt r x b y % Go.Sx.M256 + x3) = Bool.true → ∃ (y' : Nat), y' ≤ (2 : Nat) ∧ x2 = x2 ∧ x = x ∧ x3 = x3 ∧ Go.IntKind.u64.wrap ((↑(digAt r x b y / Go.Sx.M256 % (18446744073709551616 : Nat)) : Int) + (1 : Int)) = (↑(digAt r x b y' / Go.Sx.M256 % (18446744073709551616 : Nat)) : Int) ∧ (digAt r x b y + b) % Go.Sx.M256 = digAt r x b y' % Go.Sx.M256 ∧ (0 : Nat) = (0 : Nat) ∧ x3 = x3 ∧ (0 : Nat) = (0 : Nat) ∧ (0 : Nat) = (0 : Nat) ∧ y' < y) ∧ (Decidable.decide (Go.Sx.M256 ≤ digAt r x b y % Go.Sx.M256 + x3) = Bool.false → ∃ (y' : Nat), y' ≤ (2 : Nat) ∧ x2 = x2 ∧ x = x ∧ x3 = x3 ∧ (↑(digAt r x b y / Go.Sx.M256 % (18446744073709551616 : Nat)) : Int) = (↑(digAt r x b y' / Go.Sx.M256 % (18446744073709551616 : Nat)) : Int) ∧ (digAt r x b y + b) % Go.Sx.M256 = digAt r x b y' % Go.Sx.M256 ∧ (0 : Nat) = (0 : Nat) ∧ x3 = x3 ∧ (0 : Nat) = (0 : Nat) ∧ (0 : Nat) = (0 : Nat) ∧ y' < y)) ∧ (((↑(digAt r x b y / Go.Sx.M256 % (18446744073709551616 : Nat)) : Int) != (0 : Int)) = Bool.false → digAt r x b y % Go.Sx.M256 = digR r x % x3 % Go.Sx.M256 ∧ True)) := by kernel_rfl
-- END VC
-- VC vc_rest HASH 3dfc1e1ad2265348
theorem vc_rest (a b m : Nat) :
    Owes Try.prog cxRest [] 100 Try.f81 [sU a, sU b, sU m] (restG a b m) =
    (let x1 : Int := Go.Sx.limb (a * b) (3 : Nat); let x2 : Nat := a % Go.Sx.M256 * (b % Go.Sx.M256); let x3 : Nat := x2 / Go.Sx.M256; let x4 : Nat := m % Go.Sx.M256; let x5 : Int := Go.Sx.limb (a * b) (2 : Nat); let x6 : Nat := digR x3 x1 % x4; let x7 : Int := Go.Sx.limb (a * b) (1 : Nat); let x8 : Nat := digR x6 x5 % x4; let x9 : Int := Go.Sx.limb (a * b) (0 : Nat); let x10 : Nat := digR x8 x7 % x4; ((0 : Int) ≤ x1 ∧ x1 < (18446744073709551616 : Int)) ∧ x3 % Go.Sx.M256 < x4 ∧ Go.Sx.M256 ≤ (2 : Nat) * x4 ∧ ((0 : Int) ≤ x5 ∧ x5 < (18446744073709551616 : Int)) ∧ x6 % Go.Sx.M256 < x4 ∧ Go.Sx.M256 ≤ (2 : Nat) * x4 ∧ ((0 : Int) ≤ x7 ∧ x7 < (18446744073709551616 : Int)) ∧ x8 % Go.Sx.M256 < x4 ∧ Go.Sx.M256 ≤ (2 : Nat) * x4 ∧ ((0 : Int) ≤ x9 ∧ x9 < (18446744073709551616 : Int)) ∧ x10 % Go.Sx.M256 < x4 ∧ Go.Sx.M256 ≤ (2 : Nat) * x4 ∧ digR x10 x9 % x4 % Go.Sx.M256 = x2 % x4 % Go.Sx.M256 ∧ True) := by kernel_rfl
-- END VC
-- VC vc_bit HASH 135daaa6e0aef20a
theorem vc_bit (n : Int) :
    Owes Try.prog Cx.none [] 100 Try.f83 [sI .i64 n] (bitG n) =
    (let x1 : Int := Go.IntKind.i64.wrap (n.tdiv (64 : Int)); let x2 : Nat := x1.toNat; let x3 : Int := Go.IntKind.u64.wrap ((1 : Int) * (2 : Int) ^ Min.min (n.tmod (64 : Int)).toNat (64 : Nat)); let x4 : Int := if (0 : Nat) = x2 then x3 else (0 : Int); let x5 : Int := if (1 : Nat) = x2 then x3 else (0 : Int); let x6 : Int := if (2 : Nat) = x2 then x3 else (0 : Int); let x7 : Int := if (3 : Nat) = x2 then x3 else (0 : Int); (0 : Int) ≤ n.tmod (64 : Int) ∧ ((0 : Int) ≤ x1 ∧ x1 < (4 : Int)) ∧ ((0 : Int) ≤ x1 ∧ x1 < (4 : Int)) ∧ ((0 : Int) ≤ x4 ∧ x4 < (18446744073709551616 : Int)) ∧ ((0 : Int) ≤ x5 ∧ x5 < (18446744073709551616 : Int)) ∧ ((0 : Int) ≤ x6 ∧ x6 < (18446744073709551616 : Int)) ∧ ((0 : Int) ≤ x7 ∧ x7 < (18446744073709551616 : Int)) ∧ Go.Sx.join x4 x5 x6 x7 % Go.Sx.M256 = (2 : Nat) ^ n.toNat % Go.Sx.M256 ∧ True) := by kernel_rfl
-- END VC
-- VC vc_product HASH 997c2b50781fb2de
theorem vc_product (a b m : Nat) :
    Owes Try.prog cxProd [] 100 Try.f62 [sU a, sU b, sU m] (prodG a b m) =
    (let x1 : Nat := m % Go.Sx.M256; let x2 : Int := (↑((256 : Nat) - bitsN x1) : Int); let x3 : Nat := a % Go.Sx.M256; let x4 : Nat := b % Go.Sx.M256; let x5 : Nat := x3 * x4 % x1 % Go.Sx.M256; let x6 : Nat := (2 : Nat) ^ x2.toNat; let x7 : Nat := m * x6 % Go.Sx.M256; let x8 : Nat := b * x6 % Go.Sx.M256; let x9 : Int := Go.IntKind.i64.wrap ((256 : Int) - x2); ((x2 == (0 : Int)) = Bool.true → x3 < x1 ∧ x4 < x1 ∧ Go.Sx.M256 ≤ (2 : Nat) * x1 ∧ x5 = x5 ∧ True) ∧ ((x2 == (0 : Int)) = Bool.false → ((0 : Int) ≤ x2 ∧ x2 ≤ (255 : Int)) ∧ ((0 : Int) ≤ x2 ∧ x2 ≤ (255 : Int)) ∧ x3 < x7 ∧ x8 < x7 ∧ Go.Sx.M256 ≤ (2 : Nat) * x7 ∧ ((0 : Int) ≤ x9 ∧ x9 ≤ (255 : Int)) ∧ x3 * x8 % x7 % Go.Sx.M256 * ((2 : Nat) ^ x9.toNat % Go.Sx.M256) / Go.Sx.M256 % Go.Sx.M256 = x5 ∧ True)) := by kernel_rfl
-- END VC
end Go.Proofs.Ytbjdchpncbgpnaa
end

section
/-
  Package field's calls, and its laws: reckoned by the kernel. (Laid by program.)
-/
namespace Go.Proofs.Ytbjdchpncbgpnaa
open Go.Sx
set_option maxRecDepth 100000
def fE (a b m : Nat) : Int := if m % M256 = 0 then 7 else if a % M256 < m % M256 ∧ b % M256 < m % M256 then 0 else 6
def fmulG (a b m : Nat) : SV := .tup [sU (if fE a b m = 0 then a % M256 * (b % M256) % (m % M256) else 0), sI .i64 (fE a b m)]
def noC (_ _ _ : Nat) : List Prop := []
def cxFmul : Cx := [(77, specUU cmpG), (62, specUUU prodC prodG)]
-- VC vc_fMul HASH 7e2dd8a5ef344668
theorem vc_fMul (a b m : Nat) :
    Owes Try.prog cxFmul [] 100 Try.f32 [sU a, sU b, sU m] (fmulG a b m) =
    (let x1 : Nat := m % Go.Sx.M256; let x2 : Nat := a % Go.Sx.M256; let x3 : Nat := b % Go.Sx.M256; let x4 : Nat := x2 * x3 % x1; let x5 : Nat := (if fE a b m = (0 : Int) then x4 else (0 : Nat)) % Go.Sx.M256; (Go.Sx.conj [x1 == (0 : Nat)] = Bool.true → ((0 : Nat) = x5 ∧ True) ∧ (7 : Int) = fE a b m) ∧ (Go.Sx.conj [x1 == (0 : Nat)] = Bool.false → (Decidable.decide (Go.Sx.cmpN a m ≥ (0 : Int)) = Bool.true → ((0 : Nat) = x5 ∧ True) ∧ (6 : Int) = fE a b m) ∧ (Decidable.decide (Go.Sx.cmpN a m ≥ (0 : Int)) = Bool.false → (Decidable.decide (Go.Sx.cmpN b m ≥ (0 : Int)) = Bool.true → ((0 : Nat) = x5 ∧ True) ∧ (6 : Int) = fE a b m) ∧ (Decidable.decide (Go.Sx.cmpN b m ≥ (0 : Int)) = Bool.false → x2 < x1 ∧ x3 < x1 ∧ (x4 % Go.Sx.M256 = x5 ∧ True) ∧ (0 : Int) = fE a b m)))) := by kernel_rfl
-- END VC
end Go.Proofs.Ytbjdchpncbgpnaa
end

section
/-
  Package field: the easy parts.
-/
namespace Go.Proofs.Ytbjdchpncbgpnaa
open Go.Sx

theorem ok_fguess : ∀ h l y : Int, Ok (guessC h l y) → Owes Try.prog cxGuess [] 100 Try.f96 [sI .u64 h, sI .u64 l, sI .u64 y] (guessG h l y) := by
  intro h l y hc
  have := ok_guess h l y hc
  rw [vc_guess] at this
  rw [vc_fguess]
  exact this
theorem card_fguess : FnOK Try.prog 96 (specWWW guessC guessG) :=
  FnOK_WWW (CxOK_cons card_Div64 CxOK_nil) (iv := fun _ _ _ => []) (N := 100) Try.func96 (by kernel_rfl) (by kernel_rfl) (fun _ _ _ => bnd_one (bnd_I _ _)) ok_fguess
theorem ok_fnoughts : ∀ a : Nat, Owes Try.prog cxNoughts [] 100 Try.f80 [sU a] (noughtsG a) := by
  intro a
  have := ok_noughts a
  rw [vc_noughts] at this
  rw [vc_fnoughts]
  exact this
theorem card_fnoughts : FnOK Try.prog 80 (specU noughtsG) :=
  FnOK_U (CxOK_cons card_LZ64 CxOK_nil) (iv := []) (N := 100) Try.func80 (by kernel_rfl) (by kernel_rfl) (fun _ => bnd_one (bnd_I _ _)) ok_fnoughts

/-! ## sum and difference -/
/-! ## rest of a product, its parts given -/
theorem ok_rest : ∀ a b m : Nat, Ok (restC a b m) → Owes Try.prog cxRest [] 100 Try.f81 [sU a, sU b, sU m] (restG a b m) := by
  intro a b m hc
  obtain ⟨ha, hb, ht, _⟩ := hc
  rw [vc_rest]
  have hM : 0 < M256 := by rw [M256_eq]; decide
  have hm := Nat.mod_lt m hM
  have hmp : 0 < m % M256 := by omega
  obtain ⟨c0, h0, l0⟩ := limb_is (a * b) 0
  obtain ⟨c1, h1, l1⟩ := limb_is (a * b) 1
  obtain ⟨c2, h2, l2⟩ := limb_is (a * b) 2
  obtain ⟨c3, h3, l3⟩ := limb_is (a * b) 3
  have hH := horner_is (a * b) c0 c1 c2 c3 h0 h1 h2 h3
  have hP : a % M256 * (b % M256) / M256 < m % M256 := by
    rw [Nat.div_lt_iff_lt_mul hM]
    exact Nat.mul_lt_mul'' ha (Nat.lt_trans hb hm)
  have hN : a % M256 * (b % M256) = (((a % M256 * (b % M256) / M256 * 18446744073709551616 + c3) * 18446744073709551616 + c2) * 18446744073709551616 + c1) * 18446744073709551616 + c0 := by
    refine horner_top ?_
    rw [← hH, Nat.mul_mod a b]
    exact Nat.div_add_mod _ _
  obtain ⟨_, d2⟩ := long_div 18446744073709551616 c0 c1 c2 (a % M256 * (b % M256) / M256 * 18446744073709551616 + c3) (m % M256) hmp
  rw [← hN] at d2
  have hdig : ∀ r c : Nat, r < m % M256 → digR r (c : Int) = r * 18446744073709551616 + c := fun r c h => by
    unfold digR
    rw [Int.toNat_natCast, Nat.mod_eq_of_lt (Nat.lt_trans h hm)]
  rw [h0, h1, h2, h3]
  intro x1 x2 x3 x4 x5 x6 x7 x8 x9 x10
  have E3 : x3 = a % M256 * (b % M256) / M256 := rfl
  have E6 : x6 = (x3 * 18446744073709551616 + c3) % (m % M256) := congrArg (· % (m % M256)) (hdig _ _ hP)
  have lt6 := Nat.mod_lt (x3 * 18446744073709551616 + c3) hmp
  rw [← E6] at lt6
  have E8 : x8 = (x6 * 18446744073709551616 + c2) % (m % M256) := congrArg (· % (m % M256)) (hdig _ _ lt6)
  have lt8 := Nat.mod_lt (x6 * 18446744073709551616 + c2) hmp
  rw [← E8] at lt8
  have E10 : x10 = (x8 * 18446744073709551616 + c1) % (m % M256) := congrArg (· % (m % M256)) (hdig _ _ lt8)
  have lt10 := Nat.mod_lt (x8 * 18446744073709551616 + c1) hmp
  rw [← E10] at lt10
  have w : ∀ v : Nat, v < m % M256 → v % M256 < m % M256 := fun v hv => by rw [Nat.mod_eq_of_lt (Nat.lt_trans hv hm)]; exact hv
  refine ⟨word_nat l3, w _ hP, ht, word_nat l2, w _ lt6, ht, word_nat l1, w _ lt8, ht, word_nat l0, w _ lt10, ht, ?_, trivial⟩
  show digR x10 (c0 : Int) % (m % M256) % M256 = a % M256 * (b % M256) % (m % M256) % M256
  rw [hdig _ _ lt10, d2, E10, E8, E6, E3]
end Go.Proofs.Ytbjdchpncbgpnaa
end

section
/-
  Package field: a part brought down; a number less another one some times; one bit; the product.
-/
namespace Go.Proofs.Ytbjdchpncbgpnaa
open Go.Sx

/-- One digit: the guess, and what it leaves. -/
theorem dig_core (r X b : Nat) (bX : X < 18446744073709551616) (hrb : r % M256 < b % M256) (hbt : M256 ≤ 2 * (b % M256)) :
    ∃ g y : Nat, guessN (limb r 3) (limb r 2) (limb b 3) = (g : Int) ∧ g < 18446744073709551616 ∧ y ≤ 2 ∧ 0 < limb b 3 ∧
      IntKind.u64.wrap (limb r 3 - IntKind.u64.wrap (((b % M256 * g / M256 : Nat) : Int) + if join (X : Int) (limb r 0) (limb r 1) (limb r 2) % M256 < b % M256 * g % M256 then 1 else 0)) = ((digAt r (X : Int) b y / M256 % 18446744073709551616 : Nat) : Int) ∧
      (join (X : Int) (limb r 0) (limb r 1) (limb r 2) % M256 + M256 - b % M256 * g % M256) % M256 = digAt r (X : Int) b y % M256 ∧
      (∀ e, e ≤ 2 → e ≠ 0 → IntKind.u64.wrap (((digAt r (X : Int) b e / M256 % 18446744073709551616 : Nat) : Int) + ((digAt r (X : Int) b e % M256 + b % M256) / M256 : Nat)) = ((digAt r (X : Int) b (e - 1) / M256 % 18446744073709551616 : Nat) : Int) ∧ digAt r (X : Int) b e + b % M256 = digAt r (X : Int) b (e - 1) ∧ digAt r (X : Int) b e / M256 % 18446744073709551616 ≠ 0) ∧
      digAt r (X : Int) b 0 / M256 % 18446744073709551616 = 0 ∧ digAt r (X : Int) b 0 % M256 = digR r (X : Int) % (b % M256) := by
  obtain ⟨r0, h0, b0⟩ := limb_is r 0
  obtain ⟨r1, h1, b1⟩ := limb_is r 1
  obtain ⟨r2, h2, b2⟩ := limb_is r 2
  obtain ⟨r3, h3, b3⟩ := limb_is r 3
  obtain ⟨y0, k0, c0⟩ := limb_is b 0
  obtain ⟨y1, k1, c1⟩ := limb_is b 1
  obtain ⟨y2, k2, c2⟩ := limb_is b 2
  obtain ⟨y3, k3, c3⟩ := limb_is b 3
  have hA := horner_is r r0 r1 r2 r3 h0 h1 h2 h3
  have hB := horner_is b y0 y1 y2 y3 k0 k1 k2 k3
  have hBM : b % M256 < M256 := Nat.mod_lt _ (by rw [M256_eq]; decide)
  have hT : ∀ e, digAt r (X : Int) b e = M256 * 18446744073709551616 + digR r (X : Int) % (b % M256) - e * (b % M256) := fun e => rfl
  have hR : digR r (X : Int) = r % M256 * 18446744073709551616 + X := by unfold digR; rw [Int.toNat_natCast]
  have hJ : join (X : Int) (limb r 0) (limb r 1) (limb r 2) % M256 = ((r2 * 18446744073709551616 + r1) * 18446744073709551616 + r0) * 18446744073709551616 + X := by
    rw [h0, h1, h2, join_nat, M_val]
    omega
  rw [h0, h1, h2] at hJ
  rw [h0, h1, h2, h3, k3, guess_nat, hJ]
  rw [M_val] at hA hB hBM hT hR hrb hbt
  rw [M_val]
  generalize digR r (X : Int) = R at *
  rw [hA] at hR hrb
  obtain ⟨n1, n2, n3, n4, n5, n6, n7, n8⟩ := kn_all b0 b1 b2 c0 c1 c2 bX hB hR hrb hbt
  obtain ⟨x2, E2⟩ : ∃ v, v = b % 115792089237316195423570985008687907853269984665640564039457584007913129639936 := ⟨_, rfl⟩
  rw [← E2] at hB hBM hT hrb hbt n1 n5 ⊢
  obtain ⟨q1, q2, q3⟩ := knuth (W := 18446744073709551616) (K := 6277101735386680763835789423207666416102355444464034512896) (r3 := r3) (r2 := r2) (rr := (r1 * 18446744073709551616 + r0) * 18446744073709551616 + X) (b3 := y3) (bl := (y2 * 18446744073709551616 + y1) * 18446744073709551616 + y0) (B := x2) (R := R) (g := gN r3 r2 y3) n1 n2 n3 n4 n5 n6 b2 rfl
  generalize gN r3 r2 y3 = g at *
  have hBp : 0 < x2 := by clear hT; omega
  have dm := Nat.div_add_mod R x2
  have ml := Nat.mod_lt R hBp
  obtain ⟨x3, E3⟩ : ∃ v, v = R / x2 := ⟨_, rfl⟩
  rw [← E3] at dm q1 q2
  have D3 := Nat.div_add_mod (x2 * g) 115792089237316195423570985008687907853269984665640564039457584007913129639936
  have L3 := Nat.mod_lt (x2 * g) (show 0 < 115792089237316195423570985008687907853269984665640564039457584007913129639936 by decide)
  have H6 : x2 * g / 115792089237316195423570985008687907853269984665640564039457584007913129639936 < 18446744073709551616 := by
    rw [Nat.div_lt_iff_lt_mul (by decide), Nat.mul_comm 18446744073709551616]
    exact Nat.mul_lt_mul'' hBM q3
  have hG : x2 * g = x2 * x3 + (g - x3) * x2 := by
    rw [Nat.mul_comm (g - x3), ← Nat.mul_add]
    exact congrArg (x2 * ·) (by clear hT; omega)
  have hY : (g - x3) * x2 ≤ 2 * 115792089237316195423570985008687907853269984665640564039457584007913129639936 := Nat.mul_le_mul (by clear hT; omega) (Nat.le_of_lt hBM)
  obtain ⟨t1, t2⟩ := top_of (r3 := r3) (x6 := ((r2 * 18446744073709551616 + r1) * 18446744073709551616 + r0) * 18446744073709551616 + X) (x7 := x2 * g % 115792089237316195423570985008687907853269984665640564039457584007913129639936) (hi := x2 * g / 115792089237316195423570985008687907853269984665640564039457584007913129639936) (mrem := R % x2) (Y := (g - x3) * x2) (P := x2 * x3) (G := x2 * g) (by rw [dm, n7]) hG D3 L3 n8 H6 hY (Nat.lt_trans ml hBM) b3
  have step : ∀ e, e ≤ 2 → e ≠ 0 → IntKind.u64.wrap (((digAt r (X : Int) b e / 115792089237316195423570985008687907853269984665640564039457584007913129639936 % 18446744073709551616 : Nat) : Int) + ((digAt r (X : Int) b e % 115792089237316195423570985008687907853269984665640564039457584007913129639936 + x2) / 115792089237316195423570985008687907853269984665640564039457584007913129639936 : Nat)) = ((digAt r (X : Int) b (e - 1) / 115792089237316195423570985008687907853269984665640564039457584007913129639936 % 18446744073709551616 : Nat) : Int) ∧ digAt r (X : Int) b e + x2 = digAt r (X : Int) b (e - 1) ∧ digAt r (X : Int) b e / 115792089237316195423570985008687907853269984665640564039457584007913129639936 % 18446744073709551616 ≠ 0 := by
    intro e he h0
    have := top_step (mrem := R % x2) (B := x2) (e := e) ml hBM he h0
    rw [← hT, ← hT] at this
    exact this
  obtain ⟨u1, u2⟩ := top_zero (mrem := R % x2) (B := x2) ml hBM
  rw [← hT] at u1 u2 t1 t2
  have y3p : 0 < y3 := by clear hT; omega
  have g1 : g - x3 ≤ 2 := by clear hT; omega
  exact ⟨g, g - x3, rfl, q3, g1, Int.ofNat_lt.2 y3p, t1, t2, step, u1, u2⟩

theorem wrap_sub (a v : Int) : IntKind.u64.wrap (a - IntKind.u64.wrap v) = IntKind.u64.wrap (a - v) := by
  simp only [wrap_mod]
  omega
theorem carry_one {v x M : Nat} (hv : v < M) (hx : x < M) : (M ≤ v + x → (v + x) / M = 1) ∧ (¬ M ≤ v + x → (v + x) / M = 0) := by
  refine ⟨fun h => ?_, fun h => Nat.div_eq_of_lt (by omega)⟩
  rw [show v + x = (v + x - M) + M by omega, Nat.add_div_right _ (by omega), Nat.div_eq_of_lt (by omega)]
theorem ok_bring : ∀ (r : Nat) (x : Int) (b : Nat), Ok (digC r x b) → Owes Try.prog cxBring [(5, .inv (invBring r x b))] 100 Try.f92 [sU r, sI .u64 x, sU b] (bringG r x b) := by
  intro r x b hc
  obtain ⟨hx, hrb, hbt, _⟩ := hc
  rw [vc_bring]
  obtain ⟨X, rfl⟩ := Int.eq_ofNat_of_zero_le hx.1
  have bX : X < 18446744073709551616 := Int.ofNat_lt.1 hx.2
  have hM : 0 < M256 := by rw [M256_eq]; decide
  have hbM := Nat.mod_lt b hM
  obtain ⟨g, y, eg, gw, hy, hb3, t1, t2, step, u1, u2⟩ := dig_core r X b bX hrb hbt
  rw [eg]
  intro x1 x2 x3 x4 x5 x6
  have E1 : x1 = (g : Int) := rfl
  have T : x1.toNat = g := by rw [E1]; exact Int.toNat_natCast _
  have E4 : x4 = b % M256 * g := by simp only [x4, x3, T]
  have E6 : x6 = b % M256 * g % M256 := by simp only [x6, E4]
  rw [wrap_sub, ← E6, ← E4] at t1
  rw [← E6] at t2
  have hl := fun n i => (⟨limb_nonneg n i, limb_lt n i⟩ : (0 : Int) ≤ limb n i ∧ limb n i < 18446744073709551616)
  have hbB : ∀ v : Nat, (v + b) % M256 = (v + b % M256) % M256 := fun v => by rw [Nat.add_mod v b, Nat.add_mod v (b % M256), Nat.mod_mod]
  have hrem : digR r (X : Int) % (b % M256) < M256 := Nat.lt_trans (Nat.mod_lt _ (by omega)) hbM
  refine ⟨hl r 3, hl r 2, hl b 3, hb3, hx, hl r 0, hl r 1, hl r 2, by rw [E1]; exact word_nat gw, fun _ => rfl, y, hy, rfl, rfl, rfl, t1, t2, rfl, rfl, rfl, rfl, fun e he => ⟨fun c => ?_, fun c => ?_⟩⟩
  · have he0 : e ≠ 0 := by
      rintro rfl
      rw [u1] at c
      exact absurd c (by decide)
    obtain ⟨s1, s2, s3⟩ := step e he he0
    obtain ⟨k1, k2⟩ := carry_one (Nat.mod_lt (digAt r (X : Int) b e) hM) hbM
    have hs : (digAt r (X : Int) b e + b) % M256 = digAt r (X : Int) b (e - 1) % M256 := by rw [hbB, s2]
    refine ⟨fun h => ⟨e - 1, by omega, rfl, rfl, rfl, ?_, hs, rfl, rfl, rfl, rfl, by omega⟩, fun h => ⟨e - 1, by omega, rfl, rfl, rfl, ?_, hs, rfl, rfl, rfl, rfl, by omega⟩⟩
    · rw [k1 (of_decide_eq_true h)] at s1
      exact s1
    · rw [k2 (of_decide_eq_false h), Int.natCast_zero, Int.add_zero, wrap_id (word_nat (Nat.mod_lt _ (by decide)))] at s1
      exact s1
  · have he0 : e = 0 := by
      refine Classical.byContradiction fun h => ?_
      obtain ⟨s1, s2, s3⟩ := step e he h
      rw [bne_eq_false_iff_eq] at c
      exact s3 (Int.ofNat.inj c)
    subst he0
    exact ⟨by rw [u2, Nat.mod_eq_of_lt hrem], trivial⟩

theorem less_step (a P o : Int) (ha : 0 ≤ a ∧ a < 18446744073709551616) (hP : 0 ≤ P ∧ P ≤ 340282366920938463426481119284349108225) (ho : 0 ≤ o ∧ o < 18446744073709551616) :
    (0 ≤ IntKind.u64.wrap (IntKind.u64.wrap (P / 18446744073709551616 + (P % 18446744073709551616 + o + 0) / 18446744073709551616) + -((a - (P % 18446744073709551616 + o + 0) % 18446744073709551616 - 0) / 18446744073709551616)) ∧ IntKind.u64.wrap (IntKind.u64.wrap (P / 18446744073709551616 + (P % 18446744073709551616 + o + 0) / 18446744073709551616) + -((a - (P % 18446744073709551616 + o + 0) % 18446744073709551616 - 0) / 18446744073709551616)) < 18446744073709551616) ∧
    a + 18446744073709551616 * IntKind.u64.wrap (IntKind.u64.wrap (P / 18446744073709551616 + (P % 18446744073709551616 + o + 0) / 18446744073709551616) + -((a - (P % 18446744073709551616 + o + 0) % 18446744073709551616 - 0) / 18446744073709551616)) = (a - (P % 18446744073709551616 + o + 0) % 18446744073709551616 - 0) % 18446744073709551616 + P + o ∧
    (0 ≤ (a - (P % 18446744073709551616 + o + 0) % 18446744073709551616 - 0) % 18446744073709551616 ∧ (a - (P % 18446744073709551616 + o + 0) % 18446744073709551616 - 0) % 18446744073709551616 < 18446744073709551616) ∧ 0 ≤ P % 18446744073709551616 ∧ (0 ≤ (P % 18446744073709551616 + o + 0) % 18446744073709551616 ∧ (P % 18446744073709551616 + o + 0) % 18446744073709551616 < 18446744073709551616) := by
  simp only [wrap_mod]
  refine ⟨⟨?_, ?_⟩, ?_, ⟨?_, ?_⟩, ?_, ?_, ?_⟩ <;> omega
theorem prod_bound {b q : Int} (hb : 0 ≤ b ∧ b < 18446744073709551616) (hq : 0 ≤ q ∧ q < 18446744073709551616) : 0 ≤ b * q ∧ b * q ≤ 340282366920938463426481119284349108225 := by
  obtain ⟨b, rfl⟩ := Int.eq_ofNat_of_zero_le hb.1
  obtain ⟨q, rfl⟩ := Int.eq_ofNat_of_zero_le hq.1
  rw [← Int.natCast_mul]
  have := Nat.mul_le_mul (show b ≤ 18446744073709551615 by omega) (show q ≤ 18446744073709551615 by omega)
  omega
theorem less_sum {A G r0 r1 r2 r3 o hi lo : Nat} (h : A + 115792089237316195423570985008687907853269984665640564039457584007913129639936 * o = ((((r3 * 18446744073709551616 + r2) * 18446744073709551616 + r1) * 18446744073709551616 + r0) + G)) (hG : 115792089237316195423570985008687907853269984665640564039457584007913129639936 * hi + lo = G) (hlo : lo < 115792089237316195423570985008687907853269984665640564039457584007913129639936) (hA : A < 115792089237316195423570985008687907853269984665640564039457584007913129639936) (h0 : r0 < 18446744073709551616) (h1 : r1 < 18446744073709551616) (h2 : r2 < 18446744073709551616) (h3 : r3 < 18446744073709551616) :
    (((r3 * 18446744073709551616 + r2) * 18446744073709551616 + r1) * 18446744073709551616 + r0) % 115792089237316195423570985008687907853269984665640564039457584007913129639936 = (A + 115792089237316195423570985008687907853269984665640564039457584007913129639936 - lo) % 115792089237316195423570985008687907853269984665640564039457584007913129639936 ∧ (o : Int) = (hi : Int) + if A < lo then 1 else 0 := by
  split
  · refine ⟨?_, ?_⟩ <;> omega
  · refine ⟨?_, ?_⟩ <;> omega
theorem ok_fless : ∀ (a : Nat) (q : Int) (b : Nat), Ok (flessC a q b) → Owes Try.prog cxFless [] 100 Try.f97 [sU a, sI .u64 q, sU b] (flessG a q b) := by
  intro a q b hc
  obtain ⟨hq, _⟩ := hc
  rw [vc_fless]
  have hl := fun n i => (⟨limb_nonneg n i, limb_lt n i⟩ : (0 : Int) ≤ limb n i ∧ limb n i < 18446744073709551616)
  have z : (0 : Int) ≤ 0 ∧ (0 : Int) < 18446744073709551616 := by decide
  have z1 : (0 : Int) ≤ 0 ∧ (0 : Int) ≤ 1 := by decide
  obtain ⟨o0, s0, r0, p0, l0⟩ := less_step (limb a 0) (limb b 0 * q) 0 (hl a 0) (prod_bound (hl b 0) hq) z
  intro x1 x2 x3 x4 x5 x6 x7 x8
  have O0 : 0 ≤ x8 ∧ x8 < 18446744073709551616 := o0
  have S0 : limb a 0 + 18446744073709551616 * x8 = x7 % 18446744073709551616 + x1 + 0 := s0
  have R0 : 0 ≤ x7 % 18446744073709551616 ∧ x7 % 18446744073709551616 < 18446744073709551616 := r0
  have L0 : 0 ≤ x4 ∧ x4 < 18446744073709551616 := l0
  obtain ⟨o1, s1, r1, p1, l1⟩ := less_step (limb a 1) (limb b 1 * q) x8 (hl a 1) (prod_bound (hl b 1) hq) O0
  intro x9 x10 x11 x12 x13 x14
  have O1 : 0 ≤ x14 ∧ x14 < 18446744073709551616 := o1
  have S1 : limb a 1 + 18446744073709551616 * x14 = x13 % 18446744073709551616 + x5 + x8 := s1
  have R1 : 0 ≤ x13 % 18446744073709551616 ∧ x13 % 18446744073709551616 < 18446744073709551616 := r1
  have L1 : 0 ≤ x10 ∧ x10 < 18446744073709551616 := l1
  obtain ⟨o2, s2, r2, p2, l2⟩ := less_step (limb a 2) (limb b 2 * q) x14 (hl a 2) (prod_bound (hl b 2) hq) O1
  intro x15 x16 x17 x18 x19 x20
  have O2 : 0 ≤ x20 ∧ x20 < 18446744073709551616 := o2
  have S2 : limb a 2 + 18446744073709551616 * x20 = x19 % 18446744073709551616 + x11 + x14 := s2
  have R2 : 0 ≤ x19 % 18446744073709551616 ∧ x19 % 18446744073709551616 < 18446744073709551616 := r2
  have L2 : 0 ≤ x16 ∧ x16 < 18446744073709551616 := l2
  obtain ⟨o3, s3, r3, p3, l3⟩ := less_step (limb a 3) (limb b 3 * q) x20 (hl a 3) (prod_bound (hl b 3) hq) O2
  intro x21 x22 x23 x24 x25 x26 x27 x28 x29 x30
  have L3 : 0 ≤ x22 ∧ x22 < 18446744073709551616 := l3
  have R3 : 0 ≤ x27 ∧ x27 < 18446744073709551616 := r3
  have S3 : limb a 3 + 18446744073709551616 * IntKind.u64.wrap (IntKind.u64.wrap (x17 / 18446744073709551616 + x21 / 18446744073709551616) + -(x26 / 18446744073709551616)) = x27 + x17 + x20 := s3
  have O3 : 0 ≤ IntKind.u64.wrap (IntKind.u64.wrap (x17 / 18446744073709551616 + x21 / 18446744073709551616) + -(x26 / 18446744073709551616)) ∧ IntKind.u64.wrap (IntKind.u64.wrap (x17 / 18446744073709551616 + x21 / 18446744073709551616) + -(x26 / 18446744073709551616)) < 18446744073709551616 := o3
  have R0' : 0 ≤ x23 ∧ x23 < 18446744073709551616 := R0
  have R1' : 0 ≤ x24 ∧ x24 < 18446744073709551616 := R1
  have R2' : 0 ≤ x25 ∧ x25 < 18446744073709551616 := R2
  have S0' : limb a 0 + 18446744073709551616 * x8 = x23 + x1 + 0 := S0
  have S1' : limb a 1 + 18446744073709551616 * x14 = x24 + x5 + x8 := S1
  have S2' : limb a 2 + 18446744073709551616 * x20 = x25 + x11 + x14 := S2
  clear o0 s0 r0 l0 o1 s1 r1 l1 o2 s2 r2 l2 o3 s3 r3 l3 R0 R1 R2 S0 S1 S2
  have M : (join x23 x24 x25 x27 % M256 = (x28 + M256 - x30) % M256) ∧ IntKind.u64.wrap (IntKind.u64.wrap (x17 / 18446744073709551616 + x21 / 18446744073709551616) + -(x26 / 18446744073709551616)) = ((x29 / M256 : Nat) : Int) + if x28 < x30 then (1 : Int) else (0 : Int) := by
    have e1 : x1 = limb b 0 * q := rfl
    have e5 : x5 = limb b 1 * q := rfl
    have e11 : x11 = limb b 2 * q := rfl
    have e17 : x17 = limb b 3 * q := rfl
    have e28 : x28 = a % M256 := rfl
    have e29 : x29 = b % M256 * q.toNat := rfl
    have e30 : x30 = x29 % M256 := rfl
    generalize IntKind.u64.wrap (IntKind.u64.wrap (x17 / 18446744073709551616 + x21 / 18446744073709551616) + -(x26 / 18446744073709551616)) = o at *
    clear_value x1 x5 x8 x11 x14 x17 x20 x23 x24 x25 x27 x28 x29 x30
    obtain ⟨Q, rfl⟩ := Int.eq_ofNat_of_zero_le hq.1
    obtain ⟨w0, rfl⟩ := Int.eq_ofNat_of_zero_le R0'.1
    obtain ⟨w1, rfl⟩ := Int.eq_ofNat_of_zero_le R1'.1
    obtain ⟨w2, rfl⟩ := Int.eq_ofNat_of_zero_le R2'.1
    obtain ⟨w3, rfl⟩ := Int.eq_ofNat_of_zero_le R3.1
    obtain ⟨ov, rfl⟩ := Int.eq_ofNat_of_zero_le O3.1
    obtain ⟨a0, h0, b0⟩ := limb_is a 0
    obtain ⟨a1, h1, b1⟩ := limb_is a 1
    obtain ⟨a2, h2, b2⟩ := limb_is a 2
    obtain ⟨a3, h3, b3⟩ := limb_is a 3
    obtain ⟨y0, k0, c0⟩ := limb_is b 0
    obtain ⟨y1, k1, c1⟩ := limb_is b 1
    obtain ⟨y2, k2, c2⟩ := limb_is b 2
    obtain ⟨y3, k3, c3⟩ := limb_is b 3
    have hA := horner_is a a0 a1 a2 a3 h0 h1 h2 h3
    have hB := horner_is b y0 y1 y2 y3 k0 k1 k2 k3
    rw [Int.toNat_natCast, hB] at e29
    have e29' : x29 = ((y3 * Q * 18446744073709551616 + y2 * Q) * 18446744073709551616 + y1 * Q) * 18446744073709551616 + y0 * Q := by
      have k1 : ∀ X Y : Nat, (X * 18446744073709551616 + Y) * Q = X * Q * 18446744073709551616 + Y * Q := fun X Y => by rw [Nat.add_mul, Nat.mul_right_comm]
      rw [e29, k1, k1, k1]
    rw [h0] at S0'
    rw [h1] at S1'
    rw [h2] at S2'
    rw [h3] at S3
    rw [k0, ← Int.natCast_mul] at e1
    rw [k1, ← Int.natCast_mul] at e5
    rw [k2, ← Int.natCast_mul] at e11
    rw [k3, ← Int.natCast_mul] at e17
    have hMl : x29 % M256 < M256 := Nat.mod_lt _ (by rw [M256_eq]; decide)
    have hMd := Nat.div_add_mod x29 M256
    have hAl : x28 < M256 := by rw [e28]; exact Nat.mod_lt _ (by rw [M256_eq]; decide)
    rw [hA] at e28
    rw [← e30] at hMl hMd
    rw [join_nat]
    rw [M_val] at hMl hMd hAl ⊢
    refine less_sum ?_ hMd hMl hAl (Int.ofNat_lt.1 R0'.2) (Int.ofNat_lt.1 R1'.2) (Int.ofNat_lt.1 R2'.2) (Int.ofNat_lt.1 R3.2)
    rw [e28, e29']
    clear e28 e29 e29' e30 hMl hMd hAl hA hB hl O0 O1 O2 O3 L0 L1 L2 L3 p0 p1 p2 p3 R0' R1' R2' R3
    generalize y0 * Q = t0 at *
    generalize y1 * Q = t1 at *
    generalize y2 * Q = t2 at *
    generalize y3 * Q = t3 at *
    exact Nat.le_antisymm (by omega) (by omega)
  exact ⟨hl b 0, hq, p0, z.1, z1, hl a 0, L0, z1, hl b 1, hq, p1, O0.1, z1, hl a 1, L1, z1, hl b 2, hq, p2, O1.1, z1, hl a 2, L2, z1, hl b 3, hq, p3, O2.1, z1, hl a 3, L3, z1, ⟨R0', R1', R2', R3, M.1, trivial⟩, M.2⟩
theorem card_fless : FnOK Try.prog 97 (specUWU flessC flessG) :=
  FnOK_UWU (CxOK_cons card_Mul64 (CxOK_cons card_Add64 (CxOK_cons card_Sub64 CxOK_nil))) (iv := fun _ _ _ => []) (N := 100) Try.func97 (by kernel_rfl) (by kernel_rfl) (fun _ _ _ => bnd_two (bnd_U _) (bnd_I _ _)) ok_fless
theorem card_bring : FnOK Try.prog 92 (specUWU digC bringG) :=
  FnOK_UWU (CxOK_cons card_fguess (CxOK_cons card_fless (CxOK_cons card_Add CxOK_nil))) (iv := fun r x b => [(5, .inv (invBring r x b))]) (N := 100) Try.func92 (by kernel_rfl) (by kernel_rfl) (fun _ _ _ => bnd_one (bnd_U _)) ok_bring
theorem card_rest : FnOK Try.prog 81 (specUUU restC restG) :=
  FnOK_UUU (CxOK_cons card_Mul (CxOK_cons card_bring CxOK_nil)) (iv := fun _ _ _ => []) (N := 100) Try.func81 (by kernel_rfl) (by kernel_rfl) (fun _ _ _ => bnd_one (bnd_U _)) ok_rest

theorem ok_bit : ∀ n : Int, Ok (bitC n) → Owes Try.prog Cx.none [] 100 Try.f83 [sI .i64 n] (bitG n) := by
  intro n hc
  obtain ⟨hn, _⟩ := hc
  rw [vc_bit]
  obtain ⟨p, t, hnp, ht, hp, y1, y2, y3, y4⟩ := n_parts (n := n) ⟨hn.1, by omega⟩
  have hp3 : p ≤ 3 := by omega
  have ht63 : 2 ^ t < 18446744073709551616 := Nat.lt_of_le_of_lt (Nat.pow_le_pow_right (by decide) ht) (by decide)
  intro x1 x2 x3 x4 x5 x6 x7
  have E1 : x1 = (p : Int) := y1
  have E2 : x2 = p := by simp only [x2, E1]; exact Int.toNat_natCast _
  have E3 : x3 = ((2 ^ t : Nat) : Int) := by
    simp only [x3, y2]
    rw [two_min t (by omega), Int.one_mul]
    exact wrap_id (word_nat ht63)
  have w := word_nat ht63
  rw [y2, hnp, Int.toNat_natCast, two_split]
  have hE : ∀ i : Nat, (if i = x2 then x3 else (0 : Int)) = ((if i = p then 2 ^ t else 0 : Nat) : Int) := fun i => by
    rw [E2, E3]
    split <;> rfl
  have hb : ∀ i : Nat, (0 : Int) ≤ ((if i = p then 2 ^ t else 0 : Nat) : Int) ∧ ((if i = p then 2 ^ t else 0 : Nat) : Int) < 18446744073709551616 := fun i => word_nat (by split; exact ht63; decide)
  have E4 : x4 = ((if 0 = p then 2 ^ t else 0 : Nat) : Int) := hE 0
  have E5 : x5 = ((if 1 = p then 2 ^ t else 0 : Nat) : Int) := hE 1
  have E6 : x6 = ((if 2 = p then 2 ^ t else 0 : Nat) : Int) := hE 2
  have E7 : x7 = ((if 3 = p then 2 ^ t else 0 : Nat) : Int) := hE 3
  rw [E4, E5, E6, E7, E1, join_nat]
  refine ⟨nn _, ⟨nn _, by omega⟩, ⟨nn _, by omega⟩, hb 0, hb 1, hb 2, hb 3, ?_, trivial⟩
  refine congrArg (· % M256) ?_
  generalize 2 ^ t = d at *
  rcases (show p = 0 ∨ p = 1 ∨ p = 2 ∨ p = 3 by omega) with rfl | rfl | rfl | rfl
  · simp
  · simp
  · simp [Nat.mul_assoc]
  · simp [Nat.mul_assoc]
theorem card_bit : FnOK Try.prog 83 (specI bitC bitG) :=
  FnOK_I CxOK_nil (iv := fun _ => []) (N := 100) Try.func83 (by kernel_rfl) (by kernel_rfl) (fun _ => bnd_one (bnd_U _)) ok_bit

theorem prod_moved {a b m D E M : Nat} (hDE : D * E = M) (hM0 : 0 < M) (hEM : E < M) (hm : 0 < m) (hmD : m * D < M) : a * (b * D) % (m * D) % M * (E % M) / M % M = a * b % m % M := by
  have h1 : a * (b * D) % (m * D) = a * b % m * D := by rw [← Nat.mul_assoc, Nat.mul_mod_mul_right]
  have hr := Nat.mod_lt (a * b) hm
  have h2 : a * b % m * D < M := Nat.lt_of_le_of_lt (Nat.mul_le_mul_right D (Nat.le_of_lt hr)) hmD
  rw [h1, Nat.mod_eq_of_lt h2, Nat.mod_eq_of_lt hEM, Nat.mul_assoc, hDE, Nat.mul_div_cancel _ hM0]
theorem ok_product : ∀ a b m : Nat, Ok (prodC a b m) → Owes Try.prog cxProd [] 100 Try.f62 [sU a, sU b, sU m] (prodG a b m) := by
  intro a b m hc
  obtain ⟨ha, hb, _⟩ := hc
  rw [vc_product]
  have hMp : 0 < M256 := by rw [M256_eq]; decide
  have hM := Nat.mod_lt m hMp
  have hm0 : 0 < m % M256 := by omega
  have hl := bitsN_le (n := m % M256) (k := 256) hM
  obtain ⟨hb1, hb2⟩ := bitsN_two (m % M256) (by omega)
  have hl0 : 1 ≤ bitsN (m % M256) := by
    refine Nat.pos_of_ne_zero fun e => ?_
    rw [e] at hb1
    omega
  obtain ⟨s, hs⟩ : ∃ s, s = 256 - bitsN (m % M256) := ⟨_, rfl⟩
  have hs' : bitsN (m % M256) = 256 - s := by omega
  have hs2 : s ≤ 255 := by omega
  have hDE : 2 ^ s * 2 ^ (256 - s) = M256 := by rw [← Nat.pow_add, show s + (256 - s) = 256 by omega]; rfl
  have hD := Nat.two_pow_pos s
  rw [hs'] at hb1 hb2
  have hYM : m % M256 * 2 ^ s < M256 := Nat.lt_of_lt_of_eq (Nat.mul_lt_mul_of_pos_right hb1 hD) (by rw [Nat.mul_comm, hDE])
  have hYt : M256 ≤ 2 * (m % M256 * 2 ^ s) := by
    have := Nat.mul_le_mul_right (2 ^ s) hb2
    rw [Nat.mul_comm (2 ^ (256 - s)), hDE, Nat.mul_assoc] at this
    exact this
  intro x1 x2 x3 x4 x5 x6 x7 x8 x9
  have E1 : x1 = m % M256 := rfl
  have E2 : x2 = (s : Int) := by simp only [x2, x1, ← hs]
  have E3 : x3 = a % M256 := rfl
  have E4 : x4 = b % M256 := rfl
  have E5 : x5 = x3 * x4 % x1 % M256 := rfl
  have E6 : x6 = 2 ^ s := by simp only [x6, E2, Int.toNat_natCast]
  have E7 : x7 = m % M256 * 2 ^ s := by simp only [x7, E6]; exact (mod_mul_M m _).trans (Nat.mod_eq_of_lt hYM)
  have hbD : b % M256 * 2 ^ s < m % M256 * 2 ^ s := Nat.mul_lt_mul_of_pos_right hb hD
  have E8 : x8 = b % M256 * 2 ^ s := by simp only [x8, E6]; exact (mod_mul_M b _).trans (Nat.mod_eq_of_lt (Nat.lt_trans hbD hYM))
  have E9 : x9 = ((256 - s : Nat) : Int) := by
    simp only [x9, E2]
    rw [IntWalk.i64_in _ (by omega)]
    omega
  clear_value x9 x8 x7 x6 x5 x4 x3 x2 x1
  refine ⟨fun h => ?_, fun h => ?_⟩
  · have h0 : s = 0 := by
      have h := beq_iff_eq.1 h
      omega
    rw [h0, Nat.pow_zero, Nat.mul_one] at hYt
    exact ⟨by rw [E3, E1]; exact ha, by rw [E4, E1]; exact hb, by rw [E1]; exact hYt, rfl, trivial⟩
  · have h0 : 1 ≤ s := by
      have h := beq_eq_false_iff_ne.1 h
      omega
    have hEM : 2 ^ (256 - s) < M256 := by
      rw [M_pow]
      exact Nat.pow_lt_pow_right (by decide) (by omega)
    refine ⟨by rw [E2]; omega, by rw [E2]; omega, ?_, by rw [E8, E7]; exact hbD, by rw [E7]; exact hYt, by rw [E9]; omega, ?_, trivial⟩
    · rw [E3, E7]
      exact Nat.lt_of_lt_of_le ha (Nat.le_mul_of_pos_right _ hD)
    · rw [E9, Int.toNat_natCast, E8, E7, E5, E3, E4, E1]
      exact prod_moved hDE hMp hEM hm0 hYM
theorem card_product : FnOK Try.prog 62 (specUUU prodC prodG) :=
  FnOK_UUU (CxOK_cons card_fnoughts (CxOK_cons card_rest (CxOK_cons card_bit (CxOK_cons card_Mul CxOK_nil)))) (iv := fun _ _ _ => []) (N := 100) Try.func62 (by kernel_rfl) (by kernel_rfl) (fun _ _ _ => bnd_one (bnd_U _)) ok_product
end Go.Proofs.Ytbjdchpncbgpnaa
end

section
/-
  Package field's calls; turned round.
-/
namespace Go.Proofs.Ytbjdchpncbgpnaa
open Go.Sx

theorem cmp_ge {a m : Nat} : cmpN a m ≥ 0 ↔ m % M256 ≤ a % M256 := by
  unfold cmpN
  rcases Nat.lt_or_ge (a % M256) (m % M256) with c | c
  · rw [if_pos c]; omega
  · rw [if_neg (by omega)]
    refine ⟨fun _ => c, fun _ => ?_⟩
    split <;> decide
theorem f_all {a b m r : Nat} :
    (m % M256 = 0 → 0 = (if fE a b m = 0 then r else 0) % M256 ∧ 7 = fE a b m) ∧
    (m % M256 ≠ 0 → (m % M256 ≤ a % M256 ∨ m % M256 ≤ b % M256) → 0 = (if fE a b m = 0 then r else 0) % M256 ∧ 6 = fE a b m) ∧
    (m % M256 ≠ 0 → a % M256 < m % M256 → b % M256 < m % M256 → r % M256 = (if fE a b m = 0 then r else 0) % M256 ∧ 0 = fE a b m) := by
  refine ⟨fun h => ?_, fun h h' => ?_, fun h h1 h2 => ?_⟩
  · have e : fE a b m = 7 := by unfold fE; rw [if_pos h]
    rw [e, if_neg (by decide)]
    exact ⟨(Nat.zero_mod _).symm, rfl⟩
  · have e : fE a b m = 6 := by unfold fE; rw [if_neg h, if_neg (by omega)]
    rw [e, if_neg (by decide)]
    exact ⟨(Nat.zero_mod _).symm, rfl⟩
  · have e : fE a b m = 0 := by unfold fE; rw [if_neg h, if_pos ⟨h1, h2⟩]
    rw [e, if_pos rfl]
    exact ⟨rfl, rfl⟩
theorem ok_fMul : ∀ a b m : Nat, Ok (noC a b m) → Owes Try.prog cxFmul [] 100 Try.f32 [sU a, sU b, sU m] (fmulG a b m) := by
  intro a b m _
  rw [vc_fMul]
  intro x1 x2 x3 x4 x5
  obtain ⟨f1, f2, f3⟩ := f_all (a := a) (b := b) (m := m) (r := a % M256 * (b % M256) % (m % M256))
  refine ⟨fun h => ?_, fun h => ⟨fun h1 => ?_, fun h1 => ⟨fun h2 => ?_, fun h2 => ?_⟩⟩⟩
  · obtain ⟨p, q⟩ := f1 (beq_iff_eq.1 h)
    exact ⟨⟨p, trivial⟩, q⟩
  · obtain ⟨p, q⟩ := f2 (beq_eq_false_iff_ne.1 h) (.inl (cmp_ge.1 (of_decide_eq_true h1)))
    exact ⟨⟨p, trivial⟩, q⟩
  · obtain ⟨p, q⟩ := f2 (beq_eq_false_iff_ne.1 h) (.inr (cmp_ge.1 (of_decide_eq_true h2)))
    exact ⟨⟨p, trivial⟩, q⟩
  · have l1 : a % M256 < m % M256 := Nat.lt_of_not_le fun c => of_decide_eq_false h1 (cmp_ge.2 c)
    have l2 : b % M256 < m % M256 := Nat.lt_of_not_le fun c => of_decide_eq_false h2 (cmp_ge.2 c)
    obtain ⟨p, q⟩ := f3 (beq_eq_false_iff_ne.1 h) l1 l2
    exact ⟨l1, l2, ⟨p, trivial⟩, q⟩
theorem card_fMul : FnOK Try.prog 32 (specUUU noC fmulG) :=
  FnOK_UUU (CxOK_cons card_Cmp (CxOK_cons card_product CxOK_nil)) (iv := fun _ _ _ => []) (N := 100) Try.func32 (by kernel_rfl) (by kernel_rfl) (fun _ _ _ => bnd_two (bnd_U _) (bnd_I _ _)) ok_fMul
/-! ## The laws -/
end Go.Proofs.Ytbjdchpncbgpnaa
end

section
/-
  Laws of numbers by a modulus: reckoned by the kernel. (Laid by program.)
-/
namespace Go.Proofs.Ytbjdchpncbgpnaa
open Go Go.Sx Go.RowKit
set_option maxRecDepth 100000
def modR (i : Int) (a b m : Nat) : Nat := if fE a b m = 0 then (if i = 1 then (a % M256 + b % M256) % (m % M256) else if i = 2 then (a % M256 + m % M256 - b % M256) % (m % M256) else a % M256 * (b % M256) % (m % M256)) else 0
def modG (i : Int) (a b m : Nat) : SV := .tup [sU (modR i a b m), sI .i64 (fE a b m)]
def cxFP : Cx := [(32, specUUU noC fmulG), (31, specIUUU (fun _ _ _ _ => []) modG)]
-- VC vc_FieldProducts HASH 72ef5a0827c6b686
theorem vc_FieldProducts (a b m : Nat) :
    Owes Try.prog cxFP [] 10 Try.f10 [sU a, sU b, sU m] yes =
    (let x1 : Bool := Go.Sx.conj [(if fE a b m = (0 : Int) then a % Go.Sx.M256 * (b % Go.Sx.M256) % (m % Go.Sx.M256) else (0 : Nat)) % Go.Sx.M256 == modR (3 : Int) a b m % Go.Sx.M256]; (x1 = Bool.true → x1 = Bool.true) ∧ (x1 = Bool.true → x1 = Bool.true) ∧ (x1 = Bool.true → x1 = Bool.true) ∧ (x1 && fE a b m == fE a b m) = Bool.true) := by kernel_rfl
-- END VC
end Go.Proofs.Ytbjdchpncbgpnaa
end

section
/-
  Laws of numbers by a modulus: sums and products.
-/
namespace Go.Proofs.Ytbjdchpncbgpnaa
open Go Go.Sx Go.RowKit

theorem cmpI_lt0 {A R : Nat} : decide (cmpI A R ≥ 0) = false ↔ A < R := by
  rw [decide_eq_false_iff_not, cmpI_ge]
  omega
theorem cmpI_ge0 {A R : Nat} : decide (cmpI A R ≥ 0) = true ↔ R ≤ A := by rw [decide_eq_true_iff, cmpI_ge]
theorem ok_refMod (i : Int) (a b m : Nat) : OwesV Try.prog cxMod [] [] 4 Try.f31 [sI .i64 i, sU a, sU b, sU m] (modG i a b m) := by
  unfold modG
  obtain ⟨r, hr⟩ : ∃ r, r = modR i a b m := ⟨_, rfl⟩
  obtain ⟨e, he⟩ : ∃ e, e = fE a b m := ⟨_, rfl⟩
  rw [← hr, ← he, vc_refMod]
  intro x1 x2 x3 x4 x5 x6
  have hm := modM m
  have ha := modM a
  have hb := modM b
  have M0 : 0 % M256 = 0 := Nat.zero_mod _
  have E1 : x1 = m % M256 := rfl
  have E2 : x2 = r % M256 := rfl
  have E3 : x3 = a % M256 := rfl
  have E5 : x5 = b % M256 := rfl
  have z : fE a b m ≠ 0 → 0 = x2 := fun h => by
    rw [E2, hr]
    unfold modR
    rw [if_neg h, M0]
  refine ⟨fun h0 => ?_, fun h0 => ⟨fun h1 => ?_, fun h1 => ⟨fun h2 => ?_, fun h2 => ?_⟩⟩⟩
  · rw [eq0_conj] at h0
    have h0 : m % M256 = 0 := eq_of_beq h0
    have f : fE a b m = 7 := by unfold fE; rw [if_pos h0]
    exact ⟨⟨z (by rw [f]; decide), trivial⟩, by rw [he, f]⟩
  all_goals
    rw [eq0_conj] at h0
    have h0 : m % M256 ≠ 0 := ne_of_beq_false h0
  · have h1 : m % M256 ≤ a % M256 := cmpI_ge0.1 h1
    have f : fE a b m = 6 := by unfold fE; rw [if_neg h0, if_neg (by omega)]
    exact ⟨⟨z (by rw [f]; decide), trivial⟩, by rw [he, f]⟩
  · have h2 : m % M256 ≤ b % M256 := cmpI_ge0.1 h2
    have f : fE a b m = 6 := by unfold fE; rw [if_neg h0, if_neg (by omega)]
    exact ⟨⟨z (by rw [f]; decide), trivial⟩, by rw [he, f]⟩
  · have h1 : a % M256 < m % M256 := cmpI_lt0.1 h1
    have h2 : b % M256 < m % M256 := cmpI_lt0.1 h2
    have f : fE a b m = 0 := by unfold fE; rw [if_neg h0, if_pos ⟨h1, h2⟩]
    have er : r = (if i = 1 then (a % M256 + b % M256) % (m % M256) else if i = 2 then (a % M256 + m % M256 - b % M256) % (m % M256) else a % M256 * (b % M256) % (m % M256)) := by
      rw [hr]; unfold modR; rw [if_pos f]
    have e0 : (0 : Int) = e := by rw [he, f]
    rw [E1, E3, E5, E2, er]
    clear_value x1 x2 x3 x4 x5 x6
    generalize m % M256 = M at *
    generalize a % M256 = A at *
    generalize b % M256 = B at *
    refine ⟨fun h3 => ⟨h0, ⟨?_, trivial⟩, e0⟩, fun h3 => ⟨fun h4 => ⟨by omega, h0, ⟨?_, trivial⟩, e0⟩, fun h4 => ⟨h0, h1, h2, ⟨?_, trivial⟩, e0⟩⟩⟩
    · rw [if_pos (eq_of_beq h3)]
    · rw [if_neg (ne_of_beq_false h3), if_pos (eq_of_beq h4)]
      by_cases hB : B = 0
      · rw [if_pos hB, hB, Nat.zero_mod, Nat.add_zero, Nat.sub_zero, Nat.add_mod_right]
      · rw [if_neg hB, Nat.mod_eq_of_lt (show M - B < M256 by omega), show A + (M - B) = A + M - B by omega]
    · rw [if_neg (ne_of_beq_false h3), if_neg (ne_of_beq_false h4)]
theorem cxok_Mod : CxOK Try.prog cxMod := CxOK_cons card_refOrd (CxOK_cons card_refTot (CxOK_cons card_refOpp (CxOK_cons card_refPro CxOK_nil)))
theorem card_refMod : FnOK Try.prog 31 (specIUUU (fun _ _ _ _ => []) modG) :=
  FnOKV_IUUU (iv := fun _ _ _ _ => []) cxok_Mod sl_nil Try.func31 (by kernel_rfl) (by kernel_rfl) (fun _ _ _ _ x hx => by
    simp only [List.mem_cons, List.not_mem_nil, or_false] at hx
    rcases hx with rfl | rfl
    · exact bnd_Un _
    · trivial) fun i a b m _ => ok_refMod i a b m
theorem modR3 (a b m : Nat) : modR 3 a b m = if fE a b m = 0 then a % M256 * (b % M256) % (m % M256) else 0 := by
  unfold modR; rw [if_neg (show ¬ ((3 : Int) = 1) by decide), if_neg (show ¬ ((3 : Int) = 2) by decide)]
theorem ok_FieldProducts : ∀ a b m : Nat, Owes Try.prog cxFP [] 10 Try.f10 [sU a, sU b, sU m] yes := by
  intro a b m
  rw [vc_FieldProducts]
  intro x1
  have e1 : x1 = true := by simp only [x1]; rw [modR3, conj_self]
  refine ⟨id, id, id, ?_⟩
  rw [e1, beq_self_eq_true]; rfl
theorem cxok_FP : CxOK Try.prog cxFP := CxOK_cons card_fMul (CxOK_cons card_refMod CxOK_nil)
end Go.Proofs.Ytbjdchpncbgpnaa
end
