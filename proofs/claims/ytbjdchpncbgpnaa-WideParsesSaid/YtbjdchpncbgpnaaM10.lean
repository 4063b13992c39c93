/-
  Texts: P5, P6, P7, C1, C2, P9, P12, P13, P14, P15, P16, P18, P19, P20, P21, P22, V64, P108, P17.
-/
import Derived.Test.YtbjdchpncbgpnaaM1
import Derived.Test.YtbjdchpncbgpnaaM2
import Derived.Test.YtbjdchpncbgpnaaM3
import Derived.Test.YtbjdchpncbgpnaaM4
import Derived.Test.YtbjdchpncbgpnaaM5
import Derived.Test.YtbjdchpncbgpnaaM6
import Derived.Test.YtbjdchpncbgpnaaM7
import Derived.Test.YtbjdchpncbgpnaaM8
import Derived.Test.YtbjdchpncbgpnaaM9
import Derived.Lib.Mul64
section
/-
  The product of two words, in full.
-/
namespace Go.Proofs.Ytbjdchpncbgpnaa
open Go.Sx

theorem and_low (p : Nat) (hp : p < 18446744073709551616) : (BitVec.ofInt 64 (p : Int) &&& BitVec.ofInt 64 (4294967295 : Int)).toNat = p % 4294967296 := by
  have h1 : (BitVec.ofInt 64 (p : Int)).toNat = p := by
    rw [BitVec.toNat_ofInt]
    omega
  have h2 : (BitVec.ofInt 64 (4294967295 : Int)).toNat = 2 ^ 32 - 1 := by decide
  rw [BitVec.toNat_and, h1, h2, Nat.and_two_pow_sub_one_eq_mod]

theorem fdiv_low (p : Nat) : (p : Int).fdiv 4294967296 = ((p / 4294967296 : Nat) : Int) := by
  rw [Int.fdiv_eq_ediv_of_nonneg _ (show (0 : Int) ≤ 4294967296 by decide)]; rfl
theorem wrap_natP {n : Nat} (h : n < 18446744073709551616) : IntKind.u64.wrap (n : Int) = n := wrap_id ⟨Int.natCast_nonneg _, Int.ofNat_lt.2 h⟩

theorem ok_Mul64 : ∀ a b, w64ok a → w64ok b → Owes Try.prog Cx.none [] 100 Try.f75 [sI .u64 a, sI .u64 b] (mul64G a b) := by
  intro a b ha hb
  rw [vc_Mul64]
  obtain ⟨p, rfl⟩ := Int.eq_ofNat_of_zero_le ha.1
  obtain ⟨q, rfl⟩ := Int.eq_ofNat_of_zero_le hb.1
  have hp : p < 18446744073709551616 := Int.ofNat_lt.1 ha.2
  have hq : q < 18446744073709551616 := Int.ofNat_lt.1 hb.2
  intro x1 x2 x3
  have e1 : x1 = ((q % 4294967296 : Nat) : Int) := by simp only [x1]; rw [and_low q hq]; exact wrap_natP (by omega)
  obtain ⟨m1, m2, m3, m4⟩ := Lib.mul64_hi p q hp hq
  have e2 : x2 = (((p / 4294967296) * (q % 4294967296) + (p % 4294967296) * (q % 4294967296) / 4294967296 : Nat) : Int) := by
    simp only [x2, e1]
    rw [fdiv_low, and_low p hp, wrap_natP (show p % 4294967296 < 18446744073709551616 by omega), ← Int.natCast_mul, ← Int.natCast_mul, wrap_natP m1, fdiv_low]
    have : (p / 4294967296) * (q % 4294967296) < 18446744073709551616 := Nat.lt_of_le_of_lt (Nat.le_add_right _ _) m2
    rw [wrap_natP this, ← Int.natCast_add, wrap_natP m2]
  have e3 : x3 = ((p * q : Nat) : Int) := (Int.natCast_mul p q).symm
  have hpq : p * q / 18446744073709551616 < 18446744073709551616 := by
    have : p * q ≤ 18446744073709551615 * 18446744073709551615 := Nat.mul_le_mul (by omega) (by omega)
    omega
  clear_value x3 x2 x1
  subst e1 e2 e3
  constructor
  · rw [fdiv_low, fdiv_low, fdiv_low, and_low p hp, and_low _ m2, wrap_natP (show p % 4294967296 < 18446744073709551616 by omega), ← Int.natCast_mul, ← Int.natCast_mul]
    have k1 : (p / 4294967296) * (q / 4294967296) < 18446744073709551616 := by rw [← m4] at hpq; omega
    have k2 : (p % 4294967296) * (q / 4294967296) < 18446744073709551616 := Nat.lt_of_le_of_lt (Nat.le_add_left _ _) m3
    rw [wrap_natP k1, wrap_natP k2, wrap_natP (show _ % 4294967296 < 18446744073709551616 by omega), ← Int.natCast_add, ← Int.natCast_add, wrap_natP m3, fdiv_low]
    have k3 : (p / 4294967296) * (q / 4294967296) + ((p / 4294967296) * (q % 4294967296) + (p % 4294967296) * (q % 4294967296) / 4294967296) / 4294967296 < 18446744073709551616 := by rw [← m4] at hpq; exact Nat.lt_of_le_of_lt (Nat.le_add_right _ _) hpq
    rw [wrap_natP k3, ← Int.natCast_add, m4, wrap_natP hpq]
    rfl
  · unfold IntKind.wrap
    simp [IntKind.signed, IntKind.bits]
end Go.Proofs.Ytbjdchpncbgpnaa
end

section
/-
  The laws of products: the numbers' side.
-/
namespace Go.Proofs.Ytbjdchpncbgpnaa
open Go.Sx

end Go.Proofs.Ytbjdchpncbgpnaa
end

section
/-
  A sum is taken so often as its parts are: the numbers' side.
-/
namespace Go.Proofs.Ytbjdchpncbgpnaa
open Go.Sx

theorem halves (x y z : Nat) : x * z % M256 + y * z % M256 = (x % M256 * (z % M256)) % M256 + (y % M256 * (z % M256)) % M256 := by
  rw [Nat.mul_mod x, Nat.mul_mod y]

end Go.Proofs.Ytbjdchpncbgpnaa
end

section
/-
  The cards of package wide's functions, one upon another.
-/
namespace Go.Proofs.Ytbjdchpncbgpnaa
open Go.Sx

theorem CxOK_nil : CxOK Try.prog Cx.none := fun _ h => by cases h
theorem CxOK_cons {f : Nat} {s : FSpec} {l : List (Nat × FSpec)} {gl : Globs} (h : FnOKg Try.prog gl f s) (hs : CxOK Try.prog ⟨l, gl, 0⟩) : CxOK Try.prog ⟨(f, s) :: l, gl, 0⟩ := by
  intro p hp
  rcases List.mem_cons.1 hp with rfl | hp
  · exact h
  · exact hs p hp

theorem bnd_U (n : Nat) : SA.bnd none0 (sU n) := by
  intro k hk; simp only [List.mem_singleton] at hk; subst hk; trivial
theorem bnd_I (k : IntKind) (n : Int) : SA.bnd none0 (sI k n) := trivial
theorem bnd_B (b : Bool) : SA.bnd none0 (sB b) := trivial
theorem bnd_one {x : SA} (h : x.bnd none0) : SV.bnd none0 (.one x) := h
theorem bnd_two {x y : SA} (h : x.bnd none0) (h' : y.bnd none0) : SV.bnd none0 (.tup [x, y]) := by
  intro z hz
  simp only [List.mem_cons, List.not_mem_nil, or_false] at hz
  rcases hz with rfl | rfl
  · exact h
  · exact h'

theorem card_Add64 : FnOK Try.prog 68 specAdd64 := FnOK_add64 Try.func68 (by kernel_rfl) (by kernel_rfl) (by kernel_rfl) (by kernel_rfl)
theorem cxok_plus : CxOK Try.prog cxPlus := CxOK_cons card_Add64 CxOK_nil
theorem card_plus : FnOK Try.prog 37 (specUU plusG) :=
  FnOK_UU cxok_plus (iv := []) (N := 100) Try.func37 (by kernel_rfl) (by kernel_rfl) (fun a b => by unfold plusG; exact bnd_two (bnd_U _) (bnd_I _ _)) ok_plus
end Go.Proofs.Ytbjdchpncbgpnaa
end

section
/-
  The cards of products.
-/
namespace Go.Proofs.Ytbjdchpncbgpnaa
open Go.Sx

theorem card_Mul64 : FnOK Try.prog 75 (specWW mul64G) :=
  FnOK_WW CxOK_nil (iv := []) (N := 100) Try.func75 (by kernel_rfl) (by kernel_rfl) (fun a b => by unfold mul64G; exact bnd_two (bnd_I _ _) (bnd_I _ _)) ok_Mul64
theorem cxok_times : CxOK Try.prog cxTimes2 := CxOK_cons card_Mul64 (CxOK_cons card_Add64 CxOK_nil)
theorem card_times : FnOK Try.prog 51 (specUI timesG) :=
  FnOK_UI cxok_times (iv := []) (N := 100) Try.func51 (by kernel_rfl) (by kernel_rfl) (fun a n => by unfold timesG; exact bnd_two (bnd_U _) (bnd_I _ _)) ok_times
end Go.Proofs.Ytbjdchpncbgpnaa
end

section
/-
  The bytes of a number: the numbers' side.
-/
namespace Go.Proofs.Ytbjdchpncbgpnaa
open Go.Sx

end Go.Proofs.Ytbjdchpncbgpnaa
end

section
/-
  How many bits a word has.
-/
namespace Go.Proofs.Ytbjdchpncbgpnaa
open Go.Sx

end Go.Proofs.Ytbjdchpncbgpnaa
end

section
/-
  A quotient of two words by one, half a word at a time: the numbers' side.
-/
namespace Go.Proofs.Ytbjdchpncbgpnaa
open Go.Sx

/-! ## One digit -/
structure Dig (Y y1 y0 U w : Nat) : Prop where
  hY : Y = y1 * 4294967296 + y0
  h0 : y0 < 4294967296
  h1 : 2147483648 ≤ y1
  h1' : y1 < 4294967296
  hU : U < Y
  hw : w < 4294967296
structure DigAt (Y y1 y0 U w q r : Nat) : Prop extends Dig Y y1 y0 U w where
  hq : q * y1 + r = U
  hr : r < 4294967296
  hQ : (U * 4294967296 + w) / Y ≤ q
  hq' : q ≤ 4294967297
theorem Dig.pos {Y y1 y0 U w : Nat} (h : Dig Y y1 y0 U w) : 0 < Y := by have := h.hU; omega
theorem Dig.lt {Y y1 y0 U w : Nat} (h : Dig Y y1 y0 U w) : (U * 4294967296 + w) / Y < 4294967296 := by
  rw [Nat.div_lt_iff_lt_mul h.pos]
  have a := h.hU
  have b := h.hw
  omega
theorem Dig.start {Y y1 y0 U w : Nat} (h : Dig Y y1 y0 U w) : DigAt Y y1 y0 U w (U / y1) (U % y1) := by
  have hy := h.h1
  have hy' := h.h1'
  have hU := h.hU
  have hw := h.hw
  have hY := h.hY
  have h0 := h.h0
  have hp : 0 < y1 := by omega
  have hm := Nat.mod_lt U hp
  refine ⟨h, by rw [Nat.mul_comm]; exact Nat.div_add_mod U y1, by omega, ?_, ?_⟩
  · rw [Nat.le_div_iff_mul_le hp]
    have a := Nat.div_mul_le_self (U * 4294967296 + w) Y
    generalize (U * 4294967296 + w) / Y = Q at *
    have b : Q * Y = Q * y1 * 4294967296 + Q * y0 := by rw [hY, Nat.mul_add, Nat.mul_assoc]
    generalize Q * y1 = A at *
    generalize Q * y0 = B at *
    omega
  · have : U / y1 < 4294967298 := by
      rw [Nat.div_lt_iff_lt_mul hp]
      omega
    omega
theorem DigAt.mul {Y y1 y0 U w q r : Nat} (h : DigAt Y y1 y0 U w q r) : q * Y + r * 4294967296 = U * 4294967296 + q * y0 := by
  have hq := h.hq
  have : q * Y = q * y1 * 4294967296 + q * y0 := by rw [h.hY, Nat.mul_add, Nat.mul_assoc]
  generalize q * y1 = A at *
  omega
theorem DigAt.done {Y y1 y0 U w q r : Nat} (h : DigAt Y y1 y0 U w q r) (hc : q * y0 ≤ 4294967296 * r + w) : q = (U * 4294967296 + w) / Y := by
  have a := h.mul
  have hQ := h.hQ
  have : q ≤ (U * 4294967296 + w) / Y := by
    rw [Nat.le_div_iff_mul_le h.pos]
    omega
  exact Nat.le_antisymm this hQ
theorem DigAt.more {Y y1 y0 U w q r : Nat} (h : DigAt Y y1 y0 U w q r) (hc : 4294967296 ≤ q ∨ 4294967296 * r + w < q * y0) : (U * 4294967296 + w) / Y + 1 ≤ q := by
  rcases hc with hc | hc
  · exact Nat.le_trans h.lt hc
  · have a := h.mul
    rw [Nat.succ_le_iff, Nat.div_lt_iff_lt_mul h.pos]
    omega
theorem DigAt.pred {Y y1 y0 U w q r : Nat} (h : DigAt Y y1 y0 U w q r) (hc : 4294967296 ≤ q ∨ 4294967296 * r + w < q * y0) : (q - 1) * y1 + (r + y1) = U ∧ 1 ≤ q ∧ (U * 4294967296 + w) / Y ≤ q - 1 := by
  have a := h.more hc
  have hq := h.hq
  generalize (U * 4294967296 + w) / Y = Q at *
  obtain ⟨p, rfl⟩ : ∃ p, q = p + 1 := ⟨q - 1, by omega⟩
  rw [Nat.add_mul, Nat.one_mul] at hq
  rw [Nat.add_sub_cancel]
  refine ⟨by omega, by omega, by omega⟩
theorem DigAt.last {Y y1 y0 U w q r : Nat} (h : DigAt Y y1 y0 U w q r) (hc : 4294967296 ≤ q ∨ 4294967296 * r + w < q * y0) (hs : 4294967296 ≤ r + y1) : q - 1 = (U * 4294967296 + w) / Y := by
  obtain ⟨b, b1, b2⟩ := h.pred hc
  have c : (q - 1) * Y + (r + y1) * 4294967296 = U * 4294967296 + (q - 1) * y0 := by
    have : (q - 1) * Y = (q - 1) * y1 * 4294967296 + (q - 1) * y0 := by rw [h.hY, Nat.mul_add, Nat.mul_assoc]
    generalize (q - 1) * y1 = A at *
    omega
  have h0 := h.h0
  have hq' := h.hq'
  have d : (q - 1) * y0 ≤ 4294967296 * 4294967295 := Nat.mul_le_mul (by omega) (by omega)
  have : q - 1 ≤ (U * 4294967296 + w) / Y := by
    rw [Nat.le_div_iff_mul_le h.pos]
    generalize (q - 1) * Y = A at *
    generalize (q - 1) * y0 = B at *
    omega
  exact Nat.le_antisymm this b2
theorem DigAt.step {Y y1 y0 U w q r : Nat} (h : DigAt Y y1 y0 U w q r) (hc : 4294967296 ≤ q ∨ 4294967296 * r + w < q * y0) (hs : r + y1 < 4294967296) : DigAt Y y1 y0 U w (q - 1) (r + y1) := by
  obtain ⟨b, b1, b2⟩ := h.pred hc
  exact ⟨h.toDig, b, hs, b2, by have := h.hq'; omega⟩

/-! ## The words moved -/
end Go.Proofs.Ytbjdchpncbgpnaa
end

section
/-
  A quotient of two words by one: what the library's text comes to.
-/
namespace Go.Proofs.Ytbjdchpncbgpnaa
open Go.Sx

/-- What the text's words come to, as plain numbers. -/
theorem words {h l y s : Nat} (e1 : 64 - lenN y = (s : Int)) (e2 : lenN y = ((64 - s : Nat) : Int)) :
    shY y = ((y * 2 ^ s : Nat) : Int) ∧ shU h l y = ((h * 2 ^ s + l / 2 ^ (64 - s) : Nat) : Int) ∧ shL l y = ((l * 2 ^ s % 18446744073709551616 : Nat) : Int) := by
  unfold shY shU shL
  rw [e1, e2, Int.toNat_natCast, Int.toNat_natCast]
  refine ⟨?_, ?_, ?_⟩
  · rw [Int.natCast_mul, Int.natCast_pow]; rfl
  · rw [Int.natCast_add, Int.natCast_mul, Int.natCast_ediv, Int.natCast_pow, Int.natCast_pow]; rfl
  · rw [Int.natCast_emod, Int.natCast_mul, Int.natCast_pow]; rfl
@[irreducible] def qd (U L Y : Nat) : Nat := (U * 4294967296 + L / 4294967296) / Y
@[irreducible] def rd (U L Y : Nat) : Nat := (U * 4294967296 + L / 4294967296) % Y
@[irreducible] def qe (V L Y : Nat) : Nat := (V * 4294967296 + L % 4294967296) / Y
@[irreducible] def re (V L Y : Nat) : Nat := (V * 4294967296 + L % 4294967296) % Y
end Go.Proofs.Ytbjdchpncbgpnaa
end

section
/-
  Texts of numbers: the numbers' side.
-/
namespace Go.Proofs.Ytbjdchpncbgpnaa
open Go.Sx

/-! ## A long division -/
/-! ## Bytes told by numbers -/
/-! ## How many digits -/
/-! ## Digits of a text -/
theorem allDig_iff (s : ByteArray) : ∀ i, allDig s i = true ↔ ∀ j, j < i → 48 ≤ byteAt s j ∧ byteAt s j ≤ 57
  | 0 => ⟨fun _ j h => by omega, fun _ => rfl⟩
  | i + 1 => by
    unfold allDig
    rw [Bool.and_eq_true, allDig_iff s i, decide_eq_true_eq]
    constructor
    · rintro ⟨a, b⟩ j hj
      rcases Nat.lt_or_ge j i with h | h
      · exact a j h
      · rw [show j = i by omega]; exact b
    · intro h
      exact ⟨fun j hj => h j (by omega), h i (by omega)⟩
theorem decB_iff (s : ByteArray) : decB s = true ↔ (∀ j, j < s.size → 48 ≤ byteAt s j ∧ byteAt s j ≤ 57) ∧ (s.size = 1 ∨ 1 < s.size ∧ byteAt s 0 ≠ 48) := by
  unfold decB
  rw [Bool.and_eq_true, allDig_iff, Bool.or_eq_true, decide_eq_true_eq, decide_eq_true_eq]
theorem valP_succ (s : ByteArray) (i : Nat) : valP s (i + 1) = 10 * valP s i + (byteAt s i - 48) := rfl
theorem valP_zero (s : ByteArray) : valP s 0 = 0 := rfl
theorem valP_mono (s : ByteArray) : ∀ {i j : Nat}, i ≤ j → valP s i ≤ valP s j := by
  intro i j h
  induction h with
  | refl => exact Nat.le_refl _
  | step _ ih => exact Nat.le_trans ih (by rw [valP_succ]; omega)
theorem parse_ok {s : ByteArray} (h1 : s.size ≤ 78) (h2 : decB s = true) (h3 : valP s s.size < M256) : parseE s = 0 ∧ parseV s = valP s s.size := by
  have e : parseE s = 0 := by
    unfold parseE
    rw [if_neg (by omega), if_neg (by rw [h2]; decide), if_neg (by omega)]
  refine ⟨e, ?_⟩
  unfold parseV
  rw [if_pos e]
end Go.Proofs.Ytbjdchpncbgpnaa
end

section
/-
  Texts of numbers: what the code owes.
-/
namespace Go.Proofs.Ytbjdchpncbgpnaa
open Go.Sx

/-! ## split -/
/-! ## Show -/
theorem u8_nat {n : Nat} (h : n < 256) : IntKind.u8.wrap (n : Int) = (n : Int) := by
  unfold IntKind.wrap
  simp [IntKind.signed, IntKind.bits]
  omega
/-! ## decimal -/
theorem ok_decimal : ∀ s : ByteArray, s.size < 9223372036854775808 → Owes Try.prog Cx.none [(2, .inv (invDec s))] 100 Try.f50 [sStr s] (decG s) := by
  intro s hs
  rw [vc_decimal]
  intro x1 x2 x3
  refine ⟨fun _ => rfl, 0, ⟨Nat.zero_le _, rfl⟩, rfl, rfl, rfl, fun y hy => ⟨fun hc => ?_, fun hc => ?_⟩⟩
  · have hlt : y < s.size := Int.ofNat_lt.1 (of_decide_eq_true hc)
    have nb : ∀ b : Bool, b = false → (!b) = true := by rintro _ rfl; rfl
    have hb : (0 : Int) ≤ (y : Int) ∧ (y : Int).toNat < s.size := ⟨Int.natCast_nonneg _, by rw [Int.toNat_natCast]; exact hlt⟩
    have hB : ((s.data.getD (y : Int).toNat (0 : UInt8)).toNat : Int) = (byteAt s y : Int) := by rw [Int.toNat_natCast]; rfl
    rw [hB]
    refine ⟨hb, id, id, fun _ => hb, id, nb _, fun h => ?_, fun h => ?_⟩
    · rw [Bool.or_eq_true, decide_eq_true_eq, decide_eq_true_eq] at h
      cases e : decB s with
      | false => rfl
      | true =>
        have := ((decB_iff s).1 e).1 y hlt
        omega
    · rw [Bool.or_eq_false_iff, decide_eq_false_iff_not, decide_eq_false_iff_not] at h
      refine ⟨y + 1, ⟨hlt, ?_⟩, rfl, rfl, ?_, by omega⟩
      · rw [allDig_iff]
        have := (allDig_iff s y).1 hy.2
        intro j hj
        rcases Nat.lt_or_ge j y with h1 | h1
        · exact this j h1
        · rw [show j = y by omega]; omega
      · rw [IntWalk.i64_in _ (by omega)]; rfl
  · have hge : y = s.size := by
      have := of_decide_eq_false hc
      have := hy.1
      omega
    subst hge
    refine ⟨id, id, id, id, fun h => ⟨by decide, ?_⟩, id, id, fun h h' => by rw [h, h']; rfl, fun h => ?_, ?_⟩
    · rw [Bool.and_eq_true] at h
      have := of_decide_eq_true h.2
      omega
    · simp only [x2, h]; rfl
    · unfold decB
      rw [hy.2, Bool.true_and]
      have e1 : x1 = decide (s.size = 1) := by
        simp only [x1]
        rw [Bool.eq_iff_iff, beq_iff_eq, decide_eq_true_eq]
        omega
      rw [e1, Bool.eq_iff_iff, Bool.or_eq_true, Bool.or_eq_true, Bool.and_eq_true, bne_iff_ne]
      simp only [x3, decide_eq_true_eq]
      show _ ∨ _ ∧ ((byteAt s 0 : Nat) : Int) ≠ 48 ↔ _
      omega
theorem card_decimal : FnOK Try.prog 50 (specS decG) :=
  FnOK_S CxOK_nil (iv := fun s => [(2, .inv (invDec s))]) (N := 100) Try.func50 (by kernel_rfl) (by kernel_rfl) (fun _ => bnd_one (bnd_B _)) ok_decimal
end Go.Proofs.Ytbjdchpncbgpnaa
end

section
/-
  Quotients: the small parts (a guess, the bits ahead, moves up and down).
-/
namespace Go.Proofs.Ytbjdchpncbgpnaa
open Go.Sx

/-! ## guess -/
/-! ## noughts -/
end Go.Proofs.Ytbjdchpncbgpnaa
end

section
/-
  Quotients: moves up and down.
-/
namespace Go.Proofs.Ytbjdchpncbgpnaa
open Go.Sx

end Go.Proofs.Ytbjdchpncbgpnaa
end

section
/-
  Quotients: one digit of a long division by four words.
-/
namespace Go.Proofs.Ytbjdchpncbgpnaa
open Go.Sx

/-! ## How far a guess is off -/
end Go.Proofs.Ytbjdchpncbgpnaa
end

section
/-
  Quotients: the long division, and the law.
-/
namespace Go.Proofs.Ytbjdchpncbgpnaa
open Go.Sx

end Go.Proofs.Ytbjdchpncbgpnaa
end

section
/-
  Quotients: DivMod, and the law.
-/
namespace Go.Proofs.Ytbjdchpncbgpnaa
open Go.Sx

end Go.Proofs.Ytbjdchpncbgpnaa
end

section
/-
  Laws of wide numbers, and the reference's by a modulus: reckoned by the kernel. (Laid by program.)
-/
namespace Go.Proofs.Ytbjdchpncbgpnaa
open Go Go.Sx Go.RowKit
set_option maxRecDepth 100000
end Go.Proofs.Ytbjdchpncbgpnaa
end

section
/-
  Laws of wide sums and quotients.
-/
namespace Go.Proofs.Ytbjdchpncbgpnaa
open Go Go.Sx Go.RowKit
theorem conj_self (x : Nat) : conj [x == x] = true := by simp [conj]
end Go.Proofs.Ytbjdchpncbgpnaa
end

section
/-
  Texts of numbers: reading, and the laws.
-/
namespace Go.Proofs.Ytbjdchpncbgpnaa
open Go.Sx

theorem over_iff {v d M : Nat} (hv : v < M) (hd : d < M) : (v % M * 10 / M ≠ 0 ∨ (v * 10 % M + d % M) / M ≠ 0) ↔ M ≤ 10 * v + d := by
  rw [Nat.mod_eq_of_lt hv, Nat.mod_eq_of_lt hd]
  have hp : 0 < M := by omega
  rcases Nat.lt_or_ge (v * 10) M with h | h
  · rw [Nat.mod_eq_of_lt h, Nat.div_eq_of_lt h]
    rw [Ne, Ne, Nat.div_eq_zero_iff]
    omega
  · have : v * 10 / M ≠ 0 := by
      rw [Ne, Nat.div_eq_zero_iff]
      omega
    exact ⟨fun _ => by omega, fun _ => .inl this⟩
theorem digit_in {b : Nat} (h : 48 ≤ b) (h' : b ≤ 57) : IntKind.u64.wrap (IntKind.u8.wrap ((b : Int) - 48)) = ((b - 48 : Nat) : Int) := by
  rw [show (b : Int) - 48 = ((b - 48 : Nat) : Int) by omega, u8_nat (by omega), wrap_id ⟨Int.natCast_nonneg _, by omega⟩]
theorem join_one (d : Nat) : join (d : Int) 0 0 0 = d := by
  unfold join
  simp
theorem parse_bad {s : ByteArray} {e : Int} (h : parseE s = e) (he : e ≠ 0) : 0 = parseV s % M256 := by
  unfold parseV
  rw [if_neg (by rw [h]; exact he), Nat.zero_mod]
theorem ok_Parse : ∀ s : ByteArray, s.size < 9223372036854775808 → Owes Try.prog cxParse [(7, .inv (invParse s))] 100 Try.f21 [sStr s] (parseG s) := by
  intro s hs
  rw [vc_Parse]
  intro x1
  have nb : ∀ b : Bool, b = false → (!b) = true := by rintro _ rfl; rfl
  refine ⟨fun h => ?_, fun h => ⟨hs, fun h' => ?_, fun h' => ?_⟩⟩
  · have h := of_decide_eq_true h
    have e : parseE s = 1 := by unfold parseE; rw [if_pos (by omega)]
    exact ⟨⟨parse_bad e (by decide), trivial⟩, e.symm⟩
  · have h := of_decide_eq_false h
    have e : parseE s = 3 := by
      unfold parseE
      rw [if_neg (by omega), if_pos (by rw [Bool.not_eq_true'] at h'; exact h')]
    exact ⟨⟨parse_bad e (by decide), trivial⟩, e.symm⟩
  have h := of_decide_eq_false h
  have h' : decB s = true := by rw [Bool.not_eq_false'] at h'; exact h'
  have hM : 0 < M256 := by rw [M256_eq]; decide
  have hM' : 1000 < M256 := by rw [M256_eq]; decide
  refine ⟨fun _ => rfl, 0, ⟨Nat.zero_le _, by rw [valP_zero]; exact hM⟩, rfl, rfl, rfl, rfl, ⟨(Nat.zero_mod _).symm, trivial⟩, rfl, fun y hy => ⟨fun hc => ?_, fun hc => ?_⟩⟩
  · have hlt : y < s.size := Int.ofNat_lt.1 (of_decide_eq_true hc)
    have hB : ((s.data.getD (y : Int).toNat (0 : UInt8)).toNat : Int) = (byteAt s y : Int) := by rw [Int.toNat_natCast]; rfl
    have hb : (0 : Int) ≤ (y : Int) ∧ (y : Int).toNat < s.size := ⟨Int.natCast_nonneg _, by rw [Int.toNat_natCast]; exact hlt⟩
    obtain ⟨d1, d2⟩ := ((decB_iff s).1 h').1 y hlt
    have hv := valP_succ s y
    have ho := over_iff (v := valP s y) (d := byteAt s y - 48) hy.2 (by omega)
    rw [← hv] at ho
    rw [hB, digit_in d1 d2, join_one]
    refine ⟨by decide, hb, by omega, by decide, by decide, by decide, id, nb _, fun hx => ?_, fun hx => ?_⟩
    · rw [Bool.or_eq_true, bne_iff_ne, bne_iff_ne, Ne, Ne, Int.natCast_eq_zero, Int.natCast_eq_zero] at hx
      have e : parseE s = 6 := by
        unfold parseE
        rw [if_neg (by omega), if_neg (by rw [h']; decide), if_pos (Nat.le_trans (ho.1 hx) (valP_mono s hlt))]
      exact ⟨⟨parse_bad e (by decide), trivial⟩, e.symm⟩
    · have hx : ¬ (M256 ≤ valP s (y + 1)) := by
        intro c
        have := ho.2 c
        rw [Bool.or_eq_false_iff, bne_eq_false_iff_eq, bne_eq_false_iff_eq, Int.natCast_eq_zero, Int.natCast_eq_zero] at hx
        rcases this with t | t
        · exact t hx.1
        · exact t hx.2
      refine ⟨y + 1, ⟨hlt, Nat.lt_of_not_le hx⟩, rfl, rfl, ?_, rfl, ?_, rfl, by omega⟩
      · rw [IntWalk.i64_in _ (by omega)]; rfl
      · rw [hv, Nat.mul_comm]
  · have hge : y = s.size := by
      have := of_decide_eq_false hc
      have := hy.1
      omega
    subst hge
    obtain ⟨p1, p2⟩ := parse_ok (by omega) h' hy.2
    exact ⟨⟨by simp only [x1, p2], trivial⟩, p1.symm⟩
theorem card_Parse : FnOK Try.prog 21 (specS parseG) :=
  FnOK_S (CxOK_cons card_decimal (CxOK_cons card_times (CxOK_cons card_plus CxOK_nil))) (iv := fun s => [(7, .inv (invParse s))]) (N := 100) Try.func21 (by kernel_rfl) (by kernel_rfl) (fun _ => bnd_two (bnd_U _) (bnd_I _ _)) ok_Parse
/-! ## The laws -/
end Go.Proofs.Ytbjdchpncbgpnaa
end
