/-
  Quotients: the small parts (a guess, the bits ahead, moves up and down).
-/
import Derived.Test.YtbkdokofapbagaaV7
import Derived.Test.YtbkdokofapbagaaP16
namespace Go.Proofs.Ytbkdokofapbagaa
open Go.Sx

/-! ## guess -/
theorem ok_guess : ∀ h l y : Int, Ok (guessC h l y) → Owes Try.prog cxGuess [] 100 Try.f76 [sI .u64 h, sI .u64 l, sI .u64 y] (guessG h l y) := by
  intro h l y hc
  obtain ⟨hh, hl, hy, hp, _⟩ := hc
  rw [vc_guess]
  refine ⟨fun c => ?_, fun c => ?_⟩
  · have c := of_decide_eq_true c
    unfold guessN
    rw [if_neg (by omega)]
  · have c := of_decide_eq_false c
    refine ⟨hh, hl, hy, by omega, ?_⟩
    unfold guessN
    rw [if_pos (by omega)]
theorem card_guess : FnOK Try.prog 76 (specWWW guessC guessG) :=
  FnOK_WWW (CxOK_cons card_Div64 CxOK_nil) (iv := fun _ _ _ => []) (N := 100) Try.func76 (by kernel_rfl) (by kernel_rfl) (fun _ _ _ => bnd_one (bnd_I _ _)) ok_guess

/-! ## noughts -/
theorem bitsN_le {n k : Nat} (h : n < 2 ^ k) : bitsN n ≤ k := by
  unfold bitsN
  split
  · exact Nat.zero_le _
  · rename_i h0
    exact (Nat.log2_lt h0).2 h
theorem bitsN_two (n : Nat) (h : n ≠ 0) : n < 2 ^ bitsN n ∧ 2 ^ bitsN n ≤ 2 * n := by
  unfold bitsN
  rw [if_neg h]
  obtain ⟨a, b⟩ := (Nat.log2_eq_iff h).1 rfl
  refine ⟨b, ?_⟩
  rw [Nat.pow_succ]
  omega
theorem bitsN_shift {c l k : Nat} (h : c ≠ 0) (hl : l < 2 ^ k) : bitsN (c * 2 ^ k + l) = bitsN c + k := by
  have hp := Nat.two_pow_pos k
  have hc : 0 < c * 2 ^ k := Nat.mul_pos (by omega) hp
  unfold bitsN
  rw [if_neg (by omega), if_neg h]
  obtain ⟨a, b⟩ := (Nat.log2_eq_iff h).1 rfl
  have : (c * 2 ^ k + l).log2 = c.log2 + k := by
    rw [Nat.log2_eq_iff (by omega)]
    rw [show c.log2 + k + 1 = c.log2 + 1 + k by omega, Nat.pow_add, Nat.pow_add 2 (c.log2 + 1)]
    have h1 := Nat.mul_le_mul_right (2 ^ k) a
    have h2 := Nat.mul_le_mul_right (2 ^ k) (show c + 1 ≤ 2 ^ (c.log2 + 1) from b)
    rw [Nat.add_mul, Nat.one_mul] at h2
    omega
  omega
theorem lenN_is (c : Nat) : lenN (c : Int) = ((bitsN c : Nat) : Int) := by
  unfold lenN bitsN
  rw [Int.toNat_natCast]
  split <;> rfl
theorem ok_noughts : ∀ a : Nat, Owes Try.prog cxNoughts [] 100 Try.f61 [sU a] (noughtsG a) := by
  intro a
  rw [vc_noughts]
  obtain ⟨c0, h0, b0⟩ := limb_is a 0
  obtain ⟨c1, h1, b1⟩ := limb_is a 1
  obtain ⟨c2, h2, b2⟩ := limb_is a 2
  obtain ⟨c3, h3, b3⟩ := limb_is a 3
  have hA := horner_is a c0 c1 c2 c3 h0 h1 h2 h3
  rw [h0, h1, h2, h3, hA]
  rw [lenN_is c3, lenN_is c2, lenN_is c1, lenN_is c0]
  have l3 := bitsN_le (n := c3) (k := 64) b3
  have l2 := bitsN_le (n := c2) (k := 64) b2
  have l1 := bitsN_le (n := c1) (k := 64) b1
  have l0 := bitsN_le (n := c0) (k := 64) b0
  have z : bitsN 0 = 0 := rfl
  have e3 : c3 ≠ 0 → bitsN (((c3 * 18446744073709551616 + c2) * 18446744073709551616 + c1) * 18446744073709551616 + c0) = bitsN c3 + 192 := fun h => by
    have e : ((c3 * 18446744073709551616 + c2) * 18446744073709551616 + c1) * 18446744073709551616 + c0 = c3 * 2 ^ 192 + ((c2 * 18446744073709551616 + c1) * 18446744073709551616 + c0) := by omega
    exact (congrArg bitsN e).trans (bitsN_shift h (by omega))
  have e2 : c3 = 0 → c2 ≠ 0 → bitsN (((c3 * 18446744073709551616 + c2) * 18446744073709551616 + c1) * 18446744073709551616 + c0) = bitsN c2 + 128 := fun h' h => by
    have e : ((c3 * 18446744073709551616 + c2) * 18446744073709551616 + c1) * 18446744073709551616 + c0 = c2 * 2 ^ 128 + (c1 * 18446744073709551616 + c0) := by omega
    exact (congrArg bitsN e).trans (bitsN_shift h (by omega))
  have e1 : c3 = 0 → c2 = 0 → c1 ≠ 0 → bitsN (((c3 * 18446744073709551616 + c2) * 18446744073709551616 + c1) * 18446744073709551616 + c0) = bitsN c1 + 64 := fun h' h'' h => by
    have e : ((c3 * 18446744073709551616 + c2) * 18446744073709551616 + c1) * 18446744073709551616 + c0 = c1 * 2 ^ 64 + (c0) := by omega
    exact (congrArg bitsN e).trans (bitsN_shift h (by omega))
  have e0 : c3 = 0 → c2 = 0 → c1 = 0 → bitsN (((c3 * 18446744073709551616 + c2) * 18446744073709551616 + c1) * 18446744073709551616 + c0) = bitsN c0 := fun h' h'' h => by
    exact congrArg bitsN (by omega)
  generalize bitsN (((c3 * 18446744073709551616 + c2) * 18446744073709551616 + c1) * 18446744073709551616 + c0) = L at *
  have z3 : c3 = 0 → bitsN c3 = 0 := fun h => by rw [h]; rfl
  have z2 : c2 = 0 → bitsN c2 = 0 := fun h => by rw [h]; rfl
  have z1 : c1 = 0 → bitsN c1 = 0 := fun h => by rw [h]; rfl
  generalize bitsN c3 = m3 at *
  generalize bitsN c2 = m2 at *
  generalize bitsN c1 = m1 at *
  generalize bitsN c0 = m0 at *
  intro x1 x2 x3 x4
  have E1 : x1 = 64 - (m3 : Int) := by
    simp only [x1]
    rw [Int.zero_add, IntWalk.i64_in _ (by omega)]
  have E3 : x3 = 64 - (m3 : Int) + (64 - (m2 : Int)) := by
    simp only [x3, E1]
    rw [IntWalk.i64_in _ (by omega)]
  have E4 : x4 = 64 - (m3 : Int) + (64 - (m2 : Int)) + (64 - (m1 : Int)) := by
    simp only [x4, E3]
    rw [IntWalk.i64_in _ (by omega)]
  have E5 : IntKind.i64.wrap (x4 + (64 - (m0 : Int))) = 64 - (m3 : Int) + (64 - (m2 : Int)) + (64 - (m1 : Int)) + (64 - (m0 : Int)) := by
    rw [E4, IntWalk.i64_in _ (by omega)]
  have E2 : x2 = ((256 - L : Nat) : Int) := rfl
  rw [E5]
  clear_value x1 x2 x3 x4
  subst E1 E2 E3 E4
  have nz : ∀ c : Nat, ((c : Int) != 0) = true → c ≠ 0 := fun c h e => by rw [e] at h; exact absurd h (by decide)
  have zz : ∀ c : Nat, ((c : Int) != 0) = false → c = 0 := fun c h => by
    rw [bne_eq_false_iff_eq] at h
    exact Int.ofNat.inj h
  refine ⟨word_nat b3, fun h => ?_, fun h => ⟨word_nat b2, fun h' => ?_, fun h' => ⟨word_nat b1, fun h'' => ?_, fun h'' => ⟨word_nat b0, fun h4 => ?_, fun h4 => ?_⟩⟩⟩⟩
  · have := e3 (nz _ h)
    omega
  · have := e2 (zz _ h) (nz _ h')
    have := z3 (zz _ h)
    omega
  · have := e1 (zz _ h) (zz _ h') (nz _ h'')
    have := z3 (zz _ h)
    have := z2 (zz _ h')
    omega
  · have := e0 (zz _ h) (zz _ h') (zz _ h'')
    have := z3 (zz _ h)
    have := z2 (zz _ h')
    have := z1 (zz _ h'')
    omega
  · have := e0 (zz _ h) (zz _ h') (zz _ h'')
    have := z3 (zz _ h)
    have := z2 (zz _ h')
    have := z1 (zz _ h'')
    omega
theorem card_noughts : FnOK Try.prog 61 (specU noughtsG) :=
  FnOK_U (CxOK_cons card_LZ64 CxOK_nil) (iv := []) (N := 100) Try.func61 (by kernel_rfl) (by kernel_rfl) (fun _ => bnd_one (bnd_I _ _)) ok_noughts
end Go.Proofs.Ytbkdokofapbagaa
