/-
  Texts: P13, P14, P15, P16, P18, P19, P20, P21, P22, V64, P108, V8, V9, P23, P26, P27, V65, P109.
-/
import Derived.Test.YtbjdchpncbgpnaaM1
import Derived.Test.YtbjdchpncbgpnaaM2
import Derived.Test.YtbjdchpncbgpnaaM3
import Derived.Test.YtbjdchpncbgpnaaM4
import Derived.Test.YtbjdchpncbgpnaaM5
import Derived.Test.YtbjdchpncbgpnaaM6
import Derived.Test.YtbjdchpncbgpnaaM7
import Derived.Test.YtbjdchpncbgpnaaM8
import Derived.Test.YtbjdchpncbgpnaaM9
import Derived.Test.YtbjdchpncbgpnaaM10
section
/-
  A quotient of two words by one, half a word at a time: the numbers' side.
-/
namespace Go.Proofs.Ytbjdchpncbgpnaa
open Go.Sx

/-! ## One digit -/
structure Dig (Y y1 y0 U w : Nat) : Prop where
  hY : Y = y1 * 4294967296 + y0
  h0 : y0 < 4294967296
  h1 : 2147483648 ≤ y1
  h1' : y1 < 4294967296
  hU : U < Y
  hw : w < 4294967296
structure DigAt (Y y1 y0 U w q r : Nat) : Prop extends Dig Y y1 y0 U w where
  hq : q * y1 + r = U
  hr : r < 4294967296
  hQ : (U * 4294967296 + w) / Y ≤ q
  hq' : q ≤ 4294967297
theorem Dig.pos {Y y1 y0 U w : Nat} (h : Dig Y y1 y0 U w) : 0 < Y := by have := h.hU; omega
theorem Dig.lt {Y y1 y0 U w : Nat} (h : Dig Y y1 y0 U w) : (U * 4294967296 + w) / Y < 4294967296 := by
  rw [Nat.div_lt_iff_lt_mul h.pos]
  have a := h.hU
  have b := h.hw
  omega
theorem Dig.start {Y y1 y0 U w : Nat} (h : Dig Y y1 y0 U w) : DigAt Y y1 y0 U w (U / y1) (U % y1) := by
  have hy := h.h1
  have hy' := h.h1'
  have hU := h.hU
  have hw := h.hw
  have hY := h.hY
  have h0 := h.h0
  have hp : 0 < y1 := by omega
  have hm := Nat.mod_lt U hp
  refine ⟨h, by rw [Nat.mul_comm]; exact Nat.div_add_mod U y1, by omega, ?_, ?_⟩
  · rw [Nat.le_div_iff_mul_le hp]
    have a := Nat.div_mul_le_self (U * 4294967296 + w) Y
    generalize (U * 4294967296 + w) / Y = Q at *
    have b : Q * Y = Q * y1 * 4294967296 + Q * y0 := by rw [hY, Nat.mul_add, Nat.mul_assoc]
    generalize Q * y1 = A at *
    generalize Q * y0 = B at *
    omega
  · have : U / y1 < 4294967298 := by
      rw [Nat.div_lt_iff_lt_mul hp]
      omega
    omega
theorem DigAt.mul {Y y1 y0 U w q r : Nat} (h : DigAt Y y1 y0 U w q r) : q * Y + r * 4294967296 = U * 4294967296 + q * y0 := by
  have hq := h.hq
  have : q * Y = q * y1 * 4294967296 + q * y0 := by rw [h.hY, Nat.mul_add, Nat.mul_assoc]
  generalize q * y1 = A at *
  omega
theorem DigAt.done {Y y1 y0 U w q r : Nat} (h : DigAt Y y1 y0 U w q r) (hc : q * y0 ≤ 4294967296 * r + w) : q = (U * 4294967296 + w) / Y := by
  have a := h.mul
  have hQ := h.hQ
  have : q ≤ (U * 4294967296 + w) / Y := by
    rw [Nat.le_div_iff_mul_le h.pos]
    omega
  exact Nat.le_antisymm this hQ
theorem DigAt.more {Y y1 y0 U w q r : Nat} (h : DigAt Y y1 y0 U w q r) (hc : 4294967296 ≤ q ∨ 4294967296 * r + w < q * y0) : (U * 4294967296 + w) / Y + 1 ≤ q := by
  rcases hc with hc | hc
  · exact Nat.le_trans h.lt hc
  · have a := h.mul
    rw [Nat.succ_le_iff, Nat.div_lt_iff_lt_mul h.pos]
    omega
theorem DigAt.pred {Y y1 y0 U w q r : Nat} (h : DigAt Y y1 y0 U w q r) (hc : 4294967296 ≤ q ∨ 4294967296 * r + w < q * y0) : (q - 1) * y1 + (r + y1) = U ∧ 1 ≤ q ∧ (U * 4294967296 + w) / Y ≤ q - 1 := by
  have a := h.more hc
  have hq := h.hq
  generalize (U * 4294967296 + w) / Y = Q at *
  obtain ⟨p, rfl⟩ : ∃ p, q = p + 1 := ⟨q - 1, by omega⟩
  rw [Nat.add_mul, Nat.one_mul] at hq
  rw [Nat.add_sub_cancel]
  refine ⟨by omega, by omega, by omega⟩
theorem DigAt.last {Y y1 y0 U w q r : Nat} (h : DigAt Y y1 y0 U w q r) (hc : 4294967296 ≤ q ∨ 4294967296 * r + w < q * y0) (hs : 4294967296 ≤ r + y1) : q - 1 = (U * 4294967296 + w) / Y := by
  obtain ⟨b, b1, b2⟩ := h.pred hc
  have c : (q - 1) * Y + (r + y1) * 4294967296 = U * 4294967296 + (q - 1) * y0 := by
    have : (q - 1) * Y = (q - 1) * y1 * 4294967296 + (q - 1) * y0 := by rw [h.hY, Nat.mul_add, Nat.mul_assoc]
    generalize (q - 1) * y1 = A at *
    omega
  have h0 := h.h0
  have hq' := h.hq'
  have d : (q - 1) * y0 ≤ 4294967296 * 4294967295 := Nat.mul_le_mul (by omega) (by omega)
  have : q - 1 ≤ (U * 4294967296 + w) / Y := by
    rw [Nat.le_div_iff_mul_le h.pos]
    generalize (q - 1) * Y = A at *
    generalize (q - 1) * y0 = B at *
    omega
  exact Nat.le_antisymm this b2
theorem DigAt.step {Y y1 y0 U w q r : Nat} (h : DigAt Y y1 y0 U w q r) (hc : 4294967296 ≤ q ∨ 4294967296 * r + w < q * y0) (hs : r + y1 < 4294967296) : DigAt Y y1 y0 U w (q - 1) (r + y1) := by
  obtain ⟨b, b1, b2⟩ := h.pred hc
  exact ⟨h.toDig, b, hs, b2, by have := h.hq'; omega⟩

/-! ## The words moved -/
end Go.Proofs.Ytbjdchpncbgpnaa
end

section
/-
  A quotient of two words by one: what the library's text comes to.
-/
namespace Go.Proofs.Ytbjdchpncbgpnaa
open Go.Sx

/-- What the text's words come to, as plain numbers. -/
theorem words {h l y s : Nat} (e1 : 64 - lenN y = (s : Int)) (e2 : lenN y = ((64 - s : Nat) : Int)) :
    shY y = ((y * 2 ^ s : Nat) : Int) ∧ shU h l y = ((h * 2 ^ s + l / 2 ^ (64 - s) : Nat) : Int) ∧ shL l y = ((l * 2 ^ s % 18446744073709551616 : Nat) : Int) := by
  unfold shY shU shL
  rw [e1, e2, Int.toNat_natCast, Int.toNat_natCast]
  refine ⟨?_, ?_, ?_⟩
  · rw [Int.natCast_mul, Int.natCast_pow]; rfl
  · rw [Int.natCast_add, Int.natCast_mul, Int.natCast_ediv, Int.natCast_pow, Int.natCast_pow]; rfl
  · rw [Int.natCast_emod, Int.natCast_mul, Int.natCast_pow]; rfl
@[irreducible] def qd (U L Y : Nat) : Nat := (U * 4294967296 + L / 4294967296) / Y
@[irreducible] def rd (U L Y : Nat) : Nat := (U * 4294967296 + L / 4294967296) % Y
@[irreducible] def qe (V L Y : Nat) : Nat := (V * 4294967296 + L % 4294967296) / Y
@[irreducible] def re (V L Y : Nat) : Nat := (V * 4294967296 + L % 4294967296) % Y
end Go.Proofs.Ytbjdchpncbgpnaa
end

section
/-
  Texts of numbers: the numbers' side.
-/
namespace Go.Proofs.Ytbjdchpncbgpnaa
open Go.Sx

/-! ## A long division -/
/-! ## Bytes told by numbers -/
/-! ## How many digits -/
/-! ## Digits of a text -/
end Go.Proofs.Ytbjdchpncbgpnaa
end

section
/-
  Texts of numbers: what the code owes.
-/
namespace Go.Proofs.Ytbjdchpncbgpnaa
open Go.Sx

/-! ## split -/
/-! ## Show -/
/-! ## decimal -/
end Go.Proofs.Ytbjdchpncbgpnaa
end

section
/-
  Quotients: the small parts (a guess, the bits ahead, moves up and down).
-/
namespace Go.Proofs.Ytbjdchpncbgpnaa
open Go.Sx

/-! ## guess -/
/-! ## noughts -/
end Go.Proofs.Ytbjdchpncbgpnaa
end

section
/-
  Quotients: moves up and down.
-/
namespace Go.Proofs.Ytbjdchpncbgpnaa
open Go.Sx

end Go.Proofs.Ytbjdchpncbgpnaa
end

section
/-
  Quotients: one digit of a long division by four words.
-/
namespace Go.Proofs.Ytbjdchpncbgpnaa
open Go.Sx

/-! ## How far a guess is off -/
end Go.Proofs.Ytbjdchpncbgpnaa
end

section
/-
  Quotients: the long division, and the law.
-/
namespace Go.Proofs.Ytbjdchpncbgpnaa
open Go.Sx

end Go.Proofs.Ytbjdchpncbgpnaa
end

section
/-
  Quotients: DivMod, and the law.
-/
namespace Go.Proofs.Ytbjdchpncbgpnaa
open Go.Sx

end Go.Proofs.Ytbjdchpncbgpnaa
end

section
/-
  Laws of wide numbers, and the reference's by a modulus: reckoned by the kernel. (Laid by program.)
-/
namespace Go.Proofs.Ytbjdchpncbgpnaa
open Go Go.Sx Go.RowKit
set_option maxRecDepth 100000
end Go.Proofs.Ytbjdchpncbgpnaa
end

section
/-
  Laws of wide sums and quotients.
-/
namespace Go.Proofs.Ytbjdchpncbgpnaa
open Go Go.Sx Go.RowKit
theorem conj_self (x : Nat) : conj [x == x] = true := by simp [conj]
end Go.Proofs.Ytbjdchpncbgpnaa
end

section
/-
  Package field: reckoned by the kernel. (Laid by program.)
-/
namespace Go.Proofs.Ytbjdchpncbgpnaa
open Go.Sx
set_option maxRecDepth 100000
def prodC (a b m : Nat) : List Prop := [a % M256 < m % M256, b % M256 < m % M256]
def sumG (a b m : Nat) : SV := .one (sU ((a % M256 + b % M256) % (m % M256)))
def diffG (a b m : Nat) : SV := .one (sU ((a % M256 + m % M256 - b % M256) % (m % M256)))
def cxSum : Cx := [(13, specUU addG), (77, specUU cmpG), (14, specUU subG)]
-- VC vc_sum HASH f1890e7d34c57f46
theorem vc_sum (a b m : Nat) :
    Owes Try.prog cxSum [] 100 Try.f56 [sU a, sU b, sU m] (sumG a b m) =
    (let x1 : Nat := a % Go.Sx.M256 + b % Go.Sx.M256; let x2 : Bool := Decidable.decide (Go.Sx.M256 ≤ x1); let x3 : Nat := a + b; let x4 : Int := Go.Sx.cmpN x3 m; let x5 : Nat := x3 % Go.Sx.M256; let x6 : Nat := m % Go.Sx.M256; let x7 : Nat := x1 % x6 % Go.Sx.M256; ((!x2) = Bool.true → (!x2) = Bool.true) ∧ ((!x2) = Bool.true → (!x2) = Bool.true) ∧ ((!x2) = Bool.true → (!x2) = Bool.true) ∧ (x2 = Bool.false → (!x2) = Bool.true) ∧ ((x2 || Decidable.decide (x4 ≥ (0 : Int))) = Bool.true → (x5 + Go.Sx.M256 - x6) % Go.Sx.M256 = x7 ∧ True) ∧ ((x2 || Decidable.decide (x4 ≥ (0 : Int))) = Bool.false → x5 = x7 ∧ True)) := by kernel_rfl
-- END VC
-- VC vc_difference HASH 7180318ccb724778
theorem vc_difference (a b m : Nat) :
    Owes Try.prog cxSum [] 100 Try.f57 [sU a, sU b, sU m] (diffG a b m) =
    (let x1 : Nat := a % Go.Sx.M256; let x2 : Nat := b % Go.Sx.M256; let x3 : Nat := x1 + Go.Sx.M256 - x2; let x4 : Nat := m % Go.Sx.M256; let x5 : Nat := (x1 + x4 - x2) % x4 % Go.Sx.M256; (Decidable.decide (x1 < x2) = Bool.true → (x3 + m) % Go.Sx.M256 = x5 ∧ True) ∧ (Decidable.decide (x1 < x2) = Bool.false → x3 % Go.Sx.M256 = x5 ∧ True)) := by kernel_rfl
-- END VC

end Go.Proofs.Ytbjdchpncbgpnaa
end

section
/-
  Package field's calls, and its laws: reckoned by the kernel. (Laid by program.)
-/
namespace Go.Proofs.Ytbjdchpncbgpnaa
open Go.Sx
set_option maxRecDepth 100000
def fE (a b m : Nat) : Int := if m % M256 = 0 then 7 else if a % M256 < m % M256 ∧ b % M256 < m % M256 then 0 else 6
def faddG (a b m : Nat) : SV := .tup [sU (if fE a b m = 0 then (a % M256 + b % M256) % (m % M256) else 0), sI .i64 (fE a b m)]
def fsubG (a b m : Nat) : SV := .tup [sU (if fE a b m = 0 then (a % M256 + m % M256 - b % M256) % (m % M256) else 0), sI .i64 (fE a b m)]
def noC (_ _ _ : Nat) : List Prop := []
def cxFadd : Cx := [(77, specUU cmpG), (56, specUUU prodC sumG)]
def cxFsub : Cx := [(77, specUU cmpG), (57, specUUU prodC diffG)]
-- VC vc_fAdd HASH ae97056197991e6f
theorem vc_fAdd (a b m : Nat) :
    Owes Try.prog cxFadd [] 100 Try.f29 [sU a, sU b, sU m] (faddG a b m) =
    (let x1 : Nat := m % Go.Sx.M256; let x2 : Nat := a % Go.Sx.M256; let x3 : Nat := b % Go.Sx.M256; let x4 : Nat := (x2 + x3) % x1; let x5 : Nat := (if fE a b m = (0 : Int) then x4 else (0 : Nat)) % Go.Sx.M256; (Go.Sx.conj [x1 == (0 : Nat)] = Bool.true → ((0 : Nat) = x5 ∧ True) ∧ (7 : Int) = fE a b m) ∧ (Go.Sx.conj [x1 == (0 : Nat)] = Bool.false → (Decidable.decide (Go.Sx.cmpN a m ≥ (0 : Int)) = Bool.true → ((0 : Nat) = x5 ∧ True) ∧ (6 : Int) = fE a b m) ∧ (Decidable.decide (Go.Sx.cmpN a m ≥ (0 : Int)) = Bool.false → (Decidable.decide (Go.Sx.cmpN b m ≥ (0 : Int)) = Bool.true → ((0 : Nat) = x5 ∧ True) ∧ (6 : Int) = fE a b m) ∧ (Decidable.decide (Go.Sx.cmpN b m ≥ (0 : Int)) = Bool.false → x2 < x1 ∧ x3 < x1 ∧ (x4 % Go.Sx.M256 = x5 ∧ True) ∧ (0 : Int) = fE a b m)))) := by kernel_rfl
-- END VC
-- VC vc_fSub HASH 0ba917dbac0c38fe
theorem vc_fSub (a b m : Nat) :
    Owes Try.prog cxFsub [] 100 Try.f30 [sU a, sU b, sU m] (fsubG a b m) =
    (let x1 : Nat := m % Go.Sx.M256; let x2 : Nat := a % Go.Sx.M256; let x3 : Nat := b % Go.Sx.M256; let x4 : Nat := (x2 + x1 - x3) % x1; let x5 : Nat := (if fE a b m = (0 : Int) then x4 else (0 : Nat)) % Go.Sx.M256; (Go.Sx.conj [x1 == (0 : Nat)] = Bool.true → ((0 : Nat) = x5 ∧ True) ∧ (7 : Int) = fE a b m) ∧ (Go.Sx.conj [x1 == (0 : Nat)] = Bool.false → (Decidable.decide (Go.Sx.cmpN a m ≥ (0 : Int)) = Bool.true → ((0 : Nat) = x5 ∧ True) ∧ (6 : Int) = fE a b m) ∧ (Decidable.decide (Go.Sx.cmpN a m ≥ (0 : Int)) = Bool.false → (Decidable.decide (Go.Sx.cmpN b m ≥ (0 : Int)) = Bool.true → ((0 : Nat) = x5 ∧ True) ∧ (6 : Int) = fE a b m) ∧ (Decidable.decide (Go.Sx.cmpN b m ≥ (0 : Int)) = Bool.false → x2 < x1 ∧ x3 < x1 ∧ (x4 % Go.Sx.M256 = x5 ∧ True) ∧ (0 : Int) = fE a b m)))) := by kernel_rfl
-- END VC
end Go.Proofs.Ytbjdchpncbgpnaa
end

section
/-
  Package field: the easy parts.
-/
namespace Go.Proofs.Ytbjdchpncbgpnaa
open Go.Sx

/-! ## sum and difference -/
theorem sum_over {a b m M : Nat} (ha : a < m) (hb : b < m) (hm : m < M) (h : M ≤ a + b ∨ m ≤ a + b) : ((a + b) % M + M - m) % M = (a + b) % m % M := by
  have e : (a + b) % m = a + b - m := by
    rw [Nat.mod_eq_sub_mod (by omega), Nat.mod_eq_of_lt (by omega)]
  rw [e]
  rcases Nat.lt_or_ge (a + b) M with c | c
  · rw [Nat.mod_eq_of_lt c, show a + b + M - m = (a + b - m) + M by omega, Nat.add_mod_right]
  · rw [Nat.mod_eq_sub_mod c, Nat.mod_eq_of_lt (show a + b - M < M by omega), show a + b - M + M - m = a + b - m by omega]
theorem ok_sum : ∀ a b m : Nat, Ok (prodC a b m) → Owes Try.prog cxSum [] 100 Try.f56 [sU a, sU b, sU m] (sumG a b m) := by
  intro a b m hc
  obtain ⟨ha, hb, _⟩ := hc
  rw [vc_sum]
  have hM : 0 < M256 := by rw [M256_eq]; decide
  have hm := Nat.mod_lt m hM
  have hab : (a + b) % M256 = (a % M256 + b % M256) % M256 := Nat.add_mod _ _ _
  intro x1 x2 x3 x4 x5 x6 x7
  refine ⟨id, id, id, fun h => by rw [h]; rfl, fun h => ⟨?_, trivial⟩, fun h => ⟨?_, trivial⟩⟩
  · have hor : M256 ≤ a % M256 + b % M256 ∨ m % M256 ≤ a % M256 + b % M256 := by
      rw [Bool.or_eq_true, decide_eq_true_eq, decide_eq_true_eq] at h
      rcases h with h | h
      · exact .inl h
      · refine Nat.lt_or_ge (a % M256 + b % M256) M256 |>.elim (fun c => .inr ?_) .inl
        refine Nat.le_of_not_lt fun c' => ?_
        have : x4 = -1 := by
          simp only [x4, x3]
          unfold cmpN
          rw [if_pos (by rw [hab, Nat.mod_eq_of_lt c]; exact c')]
        omega
    have := sum_over ha hb hm hor
    simp only [x5, x6, x7, x1, x3, hab]
    exact this
  · rw [Bool.or_eq_false_iff, decide_eq_false_iff_not, decide_eq_false_iff_not] at h
    have h1 : a % M256 + b % M256 < M256 := Nat.lt_of_not_le h.1
    have h2 : a % M256 + b % M256 < m % M256 := by
      refine Nat.lt_of_not_le fun c => h.2 ?_
      simp only [x4, x3]
      unfold cmpN
      rw [if_neg (by rw [hab, Nat.mod_eq_of_lt h1]; omega)]
      split <;> decide
    simp only [x5, x7, x1, x3, x6, hab]
    rw [Nat.mod_eq_of_lt h2]
theorem card_sum : FnOK Try.prog 56 (specUUU prodC sumG) :=
  FnOK_UUU (CxOK_cons card_Add (CxOK_cons card_Cmp (CxOK_cons card_Sub CxOK_nil))) (iv := fun _ _ _ => []) (N := 100) Try.func56 (by kernel_rfl) (by kernel_rfl) (fun _ _ _ => bnd_one (bnd_U _)) ok_sum
theorem ok_difference : ∀ a b m : Nat, Ok (prodC a b m) → Owes Try.prog cxSum [] 100 Try.f57 [sU a, sU b, sU m] (diffG a b m) := by
  intro a b m hc
  obtain ⟨ha, hb, _⟩ := hc
  rw [vc_difference]
  have hM : 0 < M256 := by rw [M256_eq]; decide
  have hm := Nat.mod_lt m hM
  intro x1 x2 x3 x4 x5
  have E1 : x1 = a % M256 := rfl
  have E2 : x2 = b % M256 := rfl
  have E4 : x4 = m % M256 := rfl
  have E3 : x3 = x1 + M256 - x2 := rfl
  have E5 : x5 = (x1 + x4 - x2) % x4 % M256 := rfl
  clear_value x5 x3 x4 x2 x1
  rw [← E1, ← E4] at ha
  rw [← E2, ← E4] at hb
  rw [← E4] at hm
  refine ⟨fun h => ⟨?_, trivial⟩, fun h => ⟨?_, trivial⟩⟩
  · have h := of_decide_eq_true h
    rw [E5, Nat.mod_eq_of_lt (show x1 + x4 - x2 < x4 by omega), Nat.add_mod, ← E4, E3]
    rw [Nat.mod_eq_of_lt (show x1 + M256 - x2 < M256 by omega), show x1 + M256 - x2 + x4 = (x1 + x4 - x2) + M256 by omega, Nat.add_mod_right]
  · have h := of_decide_eq_false h
    rw [E5, E3, show x1 + M256 - x2 = (x1 - x2) + M256 by omega, Nat.add_mod_right, show x1 + x4 - x2 = (x1 - x2) + x4 by omega, Nat.add_mod_right, Nat.mod_eq_of_lt (show x1 - x2 < x4 by omega)]
theorem card_difference : FnOK Try.prog 57 (specUUU prodC diffG) :=
  FnOK_UUU (CxOK_cons card_Add (CxOK_cons card_Cmp (CxOK_cons card_Sub CxOK_nil))) (iv := fun _ _ _ => []) (N := 100) Try.func57 (by kernel_rfl) (by kernel_rfl) (fun _ _ _ => bnd_one (bnd_U _)) ok_difference

/-! ## rest of a product, its parts given -/
end Go.Proofs.Ytbjdchpncbgpnaa
end

section
/-
  Package field: a part brought down; a number less another one some times; one bit; the product.
-/
namespace Go.Proofs.Ytbjdchpncbgpnaa
open Go.Sx

end Go.Proofs.Ytbjdchpncbgpnaa
end

section
/-
  Package field's calls; turned round.
-/
namespace Go.Proofs.Ytbjdchpncbgpnaa
open Go.Sx

theorem cmp_ge {a m : Nat} : cmpN a m ≥ 0 ↔ m % M256 ≤ a % M256 := by
  unfold cmpN
  rcases Nat.lt_or_ge (a % M256) (m % M256) with c | c
  · rw [if_pos c]; omega
  · rw [if_neg (by omega)]
    refine ⟨fun _ => c, fun _ => ?_⟩
    split <;> decide
theorem f_all {a b m r : Nat} :
    (m % M256 = 0 → 0 = (if fE a b m = 0 then r else 0) % M256 ∧ 7 = fE a b m) ∧
    (m % M256 ≠ 0 → (m % M256 ≤ a % M256 ∨ m % M256 ≤ b % M256) → 0 = (if fE a b m = 0 then r else 0) % M256 ∧ 6 = fE a b m) ∧
    (m % M256 ≠ 0 → a % M256 < m % M256 → b % M256 < m % M256 → r % M256 = (if fE a b m = 0 then r else 0) % M256 ∧ 0 = fE a b m) := by
  refine ⟨fun h => ?_, fun h h' => ?_, fun h h1 h2 => ?_⟩
  · have e : fE a b m = 7 := by unfold fE; rw [if_pos h]
    rw [e, if_neg (by decide)]
    exact ⟨(Nat.zero_mod _).symm, rfl⟩
  · have e : fE a b m = 6 := by unfold fE; rw [if_neg h, if_neg (by omega)]
    rw [e, if_neg (by decide)]
    exact ⟨(Nat.zero_mod _).symm, rfl⟩
  · have e : fE a b m = 0 := by unfold fE; rw [if_neg h, if_pos ⟨h1, h2⟩]
    rw [e, if_pos rfl]
    exact ⟨rfl, rfl⟩
theorem ok_fAdd : ∀ a b m : Nat, Ok (noC a b m) → Owes Try.prog cxFadd [] 100 Try.f29 [sU a, sU b, sU m] (faddG a b m) := by
  intro a b m _
  rw [vc_fAdd]
  intro x1 x2 x3 x4 x5
  obtain ⟨f1, f2, f3⟩ := f_all (a := a) (b := b) (m := m) (r := (a % M256 + b % M256) % (m % M256))
  refine ⟨fun h => ?_, fun h => ⟨fun h1 => ?_, fun h1 => ⟨fun h2 => ?_, fun h2 => ?_⟩⟩⟩
  · obtain ⟨p, q⟩ := f1 (beq_iff_eq.1 h)
    exact ⟨⟨p, trivial⟩, q⟩
  · obtain ⟨p, q⟩ := f2 (beq_eq_false_iff_ne.1 h) (.inl (cmp_ge.1 (of_decide_eq_true h1)))
    exact ⟨⟨p, trivial⟩, q⟩
  · obtain ⟨p, q⟩ := f2 (beq_eq_false_iff_ne.1 h) (.inr (cmp_ge.1 (of_decide_eq_true h2)))
    exact ⟨⟨p, trivial⟩, q⟩
  · have l1 : a % M256 < m % M256 := Nat.lt_of_not_le fun c => of_decide_eq_false h1 (cmp_ge.2 c)
    have l2 : b % M256 < m % M256 := Nat.lt_of_not_le fun c => of_decide_eq_false h2 (cmp_ge.2 c)
    obtain ⟨p, q⟩ := f3 (beq_eq_false_iff_ne.1 h) l1 l2
    exact ⟨l1, l2, ⟨p, trivial⟩, q⟩
theorem card_fAdd : FnOK Try.prog 29 (specUUU noC faddG) :=
  FnOK_UUU (CxOK_cons card_Cmp (CxOK_cons card_sum CxOK_nil)) (iv := fun _ _ _ => []) (N := 100) Try.func29 (by kernel_rfl) (by kernel_rfl) (fun _ _ _ => bnd_two (bnd_U _) (bnd_I _ _)) ok_fAdd
theorem ok_fSub : ∀ a b m : Nat, Ok (noC a b m) → Owes Try.prog cxFsub [] 100 Try.f30 [sU a, sU b, sU m] (fsubG a b m) := by
  intro a b m _
  rw [vc_fSub]
  intro x1 x2 x3 x4 x5
  obtain ⟨f1, f2, f3⟩ := f_all (a := a) (b := b) (m := m) (r := (a % M256 + m % M256 - b % M256) % (m % M256))
  refine ⟨fun h => ?_, fun h => ⟨fun h1 => ?_, fun h1 => ⟨fun h2 => ?_, fun h2 => ?_⟩⟩⟩
  · obtain ⟨p, q⟩ := f1 (beq_iff_eq.1 h)
    exact ⟨⟨p, trivial⟩, q⟩
  · obtain ⟨p, q⟩ := f2 (beq_eq_false_iff_ne.1 h) (.inl (cmp_ge.1 (of_decide_eq_true h1)))
    exact ⟨⟨p, trivial⟩, q⟩
  · obtain ⟨p, q⟩ := f2 (beq_eq_false_iff_ne.1 h) (.inr (cmp_ge.1 (of_decide_eq_true h2)))
    exact ⟨⟨p, trivial⟩, q⟩
  · have l1 : a % M256 < m % M256 := Nat.lt_of_not_le fun c => of_decide_eq_false h1 (cmp_ge.2 c)
    have l2 : b % M256 < m % M256 := Nat.lt_of_not_le fun c => of_decide_eq_false h2 (cmp_ge.2 c)
    obtain ⟨p, q⟩ := f3 (beq_eq_false_iff_ne.1 h) l1 l2
    exact ⟨l1, l2, ⟨p, trivial⟩, q⟩
theorem card_fSub : FnOK Try.prog 30 (specUUU noC fsubG) :=
  FnOK_UUU (CxOK_cons card_Cmp (CxOK_cons card_difference CxOK_nil)) (iv := fun _ _ _ => []) (N := 100) Try.func30 (by kernel_rfl) (by kernel_rfl) (fun _ _ _ => bnd_two (bnd_U _) (bnd_I _ _)) ok_fSub
/-! ## The laws -/
end Go.Proofs.Ytbjdchpncbgpnaa
end

section
/-
  Laws of numbers by a modulus: reckoned by the kernel. (Laid by program.)
-/
namespace Go.Proofs.Ytbjdchpncbgpnaa
open Go Go.Sx Go.RowKit
set_option maxRecDepth 100000
def modR (i : Int) (a b m : Nat) : Nat := if fE a b m = 0 then (if i = 1 then (a % M256 + b % M256) % (m % M256) else if i = 2 then (a % M256 + m % M256 - b % M256) % (m % M256) else a % M256 * (b % M256) % (m % M256)) else 0
def modG (i : Int) (a b m : Nat) : SV := .tup [sU (modR i a b m), sI .i64 (fE a b m)]
def cxFS : Cx := [(29, specUUU noC faddG), (30, specUUU noC fsubG), (31, specIUUU (fun _ _ _ _ => []) modG)]
-- VC vc_FieldSums HASH 683d34e0afcef0c5
theorem vc_FieldSums (a b m : Nat) :
    Owes Try.prog cxFS [] 10 Try.f9 [sU a, sU b, sU m] yes =
    (let x1 : Nat := b % Go.Sx.M256; let x2 : Nat := m % Go.Sx.M256; let x3 : Bool := Go.Sx.conj [(if fE a b m = (0 : Int) then (a % Go.Sx.M256 + x1) % x2 else (0 : Nat)) % Go.Sx.M256 == modR (1 : Int) a b m % Go.Sx.M256]; let x4 : Bool := fE a b m == fE a b m; let x5 : Bool := x3 && x4; let x6 : Bool := x5 && Go.Sx.conj [(if fE a b m = (0 : Int) then (a % Go.Sx.M256 + x2 - x1) % x2 else (0 : Nat)) % Go.Sx.M256 == modR (2 : Int) a b m % Go.Sx.M256]; (x3 = Bool.true → x3 = Bool.true) ∧ (x3 = Bool.true → x3 = Bool.true) ∧ (x3 = Bool.true → x3 = Bool.true) ∧ (x5 = Bool.true → x5 = Bool.true) ∧ (x5 = Bool.true → x5 = Bool.true) ∧ (x5 = Bool.true → x5 = Bool.true) ∧ (x6 = Bool.true → x6 = Bool.true) ∧ (x6 = Bool.true → x6 = Bool.true) ∧ (x6 = Bool.true → x6 = Bool.true) ∧ (x6 && x4) = Bool.true) := by kernel_rfl
-- END VC
end Go.Proofs.Ytbjdchpncbgpnaa
end

section
/-
  Laws of numbers by a modulus: sums and products.
-/
namespace Go.Proofs.Ytbjdchpncbgpnaa
open Go Go.Sx Go.RowKit

theorem cmpI_lt0 {A R : Nat} : decide (cmpI A R ≥ 0) = false ↔ A < R := by
  rw [decide_eq_false_iff_not, cmpI_ge]
  omega
theorem cmpI_ge0 {A R : Nat} : decide (cmpI A R ≥ 0) = true ↔ R ≤ A := by rw [decide_eq_true_iff, cmpI_ge]
theorem ok_refMod (i : Int) (a b m : Nat) : OwesV Try.prog cxMod [] [] 4 Try.f31 [sI .i64 i, sU a, sU b, sU m] (modG i a b m) := by
  unfold modG
  obtain ⟨r, hr⟩ : ∃ r, r = modR i a b m := ⟨_, rfl⟩
  obtain ⟨e, he⟩ : ∃ e, e = fE a b m := ⟨_, rfl⟩
  rw [← hr, ← he, vc_refMod]
  intro x1 x2 x3 x4 x5 x6
  have hm := modM m
  have ha := modM a
  have hb := modM b
  have M0 : 0 % M256 = 0 := Nat.zero_mod _
  have E1 : x1 = m % M256 := rfl
  have E2 : x2 = r % M256 := rfl
  have E3 : x3 = a % M256 := rfl
  have E5 : x5 = b % M256 := rfl
  have z : fE a b m ≠ 0 → 0 = x2 := fun h => by
    rw [E2, hr]
    unfold modR
    rw [if_neg h, M0]
  refine ⟨fun h0 => ?_, fun h0 => ⟨fun h1 => ?_, fun h1 => ⟨fun h2 => ?_, fun h2 => ?_⟩⟩⟩
  · rw [eq0_conj] at h0
    have h0 : m % M256 = 0 := eq_of_beq h0
    have f : fE a b m = 7 := by unfold fE; rw [if_pos h0]
    exact ⟨⟨z (by rw [f]; decide), trivial⟩, by rw [he, f]⟩
  all_goals
    rw [eq0_conj] at h0
    have h0 : m % M256 ≠ 0 := ne_of_beq_false h0
  · have h1 : m % M256 ≤ a % M256 := cmpI_ge0.1 h1
    have f : fE a b m = 6 := by unfold fE; rw [if_neg h0, if_neg (by omega)]
    exact ⟨⟨z (by rw [f]; decide), trivial⟩, by rw [he, f]⟩
  · have h2 : m % M256 ≤ b % M256 := cmpI_ge0.1 h2
    have f : fE a b m = 6 := by unfold fE; rw [if_neg h0, if_neg (by omega)]
    exact ⟨⟨z (by rw [f]; decide), trivial⟩, by rw [he, f]⟩
  · have h1 : a % M256 < m % M256 := cmpI_lt0.1 h1
    have h2 : b % M256 < m % M256 := cmpI_lt0.1 h2
    have f : fE a b m = 0 := by unfold fE; rw [if_neg h0, if_pos ⟨h1, h2⟩]
    have er : r = (if i = 1 then (a % M256 + b % M256) % (m % M256) else if i = 2 then (a % M256 + m % M256 - b % M256) % (m % M256) else a % M256 * (b % M256) % (m % M256)) := by
      rw [hr]; unfold modR; rw [if_pos f]
    have e0 : (0 : Int) = e := by rw [he, f]
    rw [E1, E3, E5, E2, er]
    clear_value x1 x2 x3 x4 x5 x6
    generalize m % M256 = M at *
    generalize a % M256 = A at *
    generalize b % M256 = B at *
    refine ⟨fun h3 => ⟨h0, ⟨?_, trivial⟩, e0⟩, fun h3 => ⟨fun h4 => ⟨by omega, h0, ⟨?_, trivial⟩, e0⟩, fun h4 => ⟨h0, h1, h2, ⟨?_, trivial⟩, e0⟩⟩⟩
    · rw [if_pos (eq_of_beq h3)]
    · rw [if_neg (ne_of_beq_false h3), if_pos (eq_of_beq h4)]
      by_cases hB : B = 0
      · rw [if_pos hB, hB, Nat.zero_mod, Nat.add_zero, Nat.sub_zero, Nat.add_mod_right]
      · rw [if_neg hB, Nat.mod_eq_of_lt (show M - B < M256 by omega), show A + (M - B) = A + M - B by omega]
    · rw [if_neg (ne_of_beq_false h3), if_neg (ne_of_beq_false h4)]
theorem cxok_Mod : CxOK Try.prog cxMod := CxOK_cons card_refOrd (CxOK_cons card_refTot (CxOK_cons card_refOpp (CxOK_cons card_refPro CxOK_nil)))
theorem card_refMod : FnOK Try.prog 31 (specIUUU (fun _ _ _ _ => []) modG) :=
  FnOKV_IUUU (iv := fun _ _ _ _ => []) cxok_Mod sl_nil Try.func31 (by kernel_rfl) (by kernel_rfl) (fun _ _ _ _ x hx => by
    simp only [List.mem_cons, List.not_mem_nil, or_false] at hx
    rcases hx with rfl | rfl
    · exact bnd_Un _
    · trivial) fun i a b m _ => ok_refMod i a b m
theorem modR1 (a b m : Nat) : modR 1 a b m = if fE a b m = 0 then (a % M256 + b % M256) % (m % M256) else 0 := by
  unfold modR; rw [if_pos rfl]
theorem modR2 (a b m : Nat) : modR 2 a b m = if fE a b m = 0 then (a % M256 + m % M256 - b % M256) % (m % M256) else 0 := by
  unfold modR; rw [if_neg (show ¬ ((2 : Int) = 1) by decide), if_pos rfl]
theorem ok_FieldSums : ∀ a b m : Nat, Owes Try.prog cxFS [] 10 Try.f9 [sU a, sU b, sU m] yes := by
  intro a b m
  rw [vc_FieldSums]
  intro x1 x2 x3 x4 x5 x6
  have e3 : x3 = true := by simp only [x3, x1, x2]; rw [modR1, conj_self]
  have e4 : x4 = true := by simp only [x4]; rw [beq_self_eq_true]
  have e5 : x5 = true := by simp only [x5]; rw [e3, e4]; rfl
  have e6 : x6 = true := by simp only [x6, x1, x2]; rw [e5, modR2, conj_self]; rfl
  refine ⟨id, id, id, id, id, id, id, id, id, ?_⟩
  rw [e6, e4]; rfl
theorem cxok_FS : CxOK Try.prog cxFS := CxOK_cons card_fAdd (CxOK_cons card_fSub (CxOK_cons card_refMod CxOK_nil))
end Go.Proofs.Ytbjdchpncbgpnaa
end
