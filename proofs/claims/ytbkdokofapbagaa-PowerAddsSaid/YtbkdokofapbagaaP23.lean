/-
  Package field: the easy parts.
-/
import Derived.Test.YtbkdokofapbagaaV8
import Derived.Test.YtbkdokofapbagaaP22
namespace Go.Proofs.Ytbkdokofapbagaa
open Go.Sx

theorem ok_fguess : ∀ h l y : Int, Ok (guessC h l y) → Owes Try.prog cxGuess [] 100 Try.f81 [sI .u64 h, sI .u64 l, sI .u64 y] (guessG h l y) := by
  intro h l y hc
  have := ok_guess h l y hc
  rw [vc_guess] at this
  rw [vc_fguess]
  exact this
theorem card_fguess : FnOK Try.prog 81 (specWWW guessC guessG) :=
  FnOK_WWW (CxOK_cons card_Div64 CxOK_nil) (iv := fun _ _ _ => []) (N := 100) Try.func81 (by kernel_rfl) (by kernel_rfl) (fun _ _ _ => bnd_one (bnd_I _ _)) ok_fguess
theorem ok_fnoughts : ∀ a : Nat, Owes Try.prog cxNoughts [] 100 Try.f66 [sU a] (noughtsG a) := by
  intro a
  have := ok_noughts a
  rw [vc_noughts] at this
  rw [vc_fnoughts]
  exact this
theorem card_fnoughts : FnOK Try.prog 66 (specU noughtsG) :=
  FnOK_U (CxOK_cons card_LZ64 CxOK_nil) (iv := []) (N := 100) Try.func66 (by kernel_rfl) (by kernel_rfl) (fun _ => bnd_one (bnd_I _ _)) ok_fnoughts

/-! ## sum and difference -/
theorem sum_over {a b m M : Nat} (ha : a < m) (hb : b < m) (hm : m < M) (h : M ≤ a + b ∨ m ≤ a + b) : ((a + b) % M + M - m) % M = (a + b) % m % M := by
  have e : (a + b) % m = a + b - m := by
    rw [Nat.mod_eq_sub_mod (by omega), Nat.mod_eq_of_lt (by omega)]
  rw [e]
  rcases Nat.lt_or_ge (a + b) M with c | c
  · rw [Nat.mod_eq_of_lt c, show a + b + M - m = (a + b - m) + M by omega, Nat.add_mod_right]
  · rw [Nat.mod_eq_sub_mod c, Nat.mod_eq_of_lt (show a + b - M < M by omega), show a + b - M + M - m = a + b - m by omega]
theorem ok_sum : ∀ a b m : Nat, Ok (prodC a b m) → Owes Try.prog cxSum [] 100 Try.f53 [sU a, sU b, sU m] (sumG a b m) := by
  intro a b m hc
  obtain ⟨ha, hb, _⟩ := hc
  rw [vc_sum]
  have hM : 0 < M256 := by rw [M256_eq]; decide
  have hm := Nat.mod_lt m hM
  have hab : (a + b) % M256 = (a % M256 + b % M256) % M256 := Nat.add_mod _ _ _
  intro x1 x2 x3 x4 x5 x6 x7
  refine ⟨id, id, id, fun h => by rw [h]; rfl, fun h => ⟨?_, trivial⟩, fun h => ⟨?_, trivial⟩⟩
  · have hor : M256 ≤ a % M256 + b % M256 ∨ m % M256 ≤ a % M256 + b % M256 := by
      rw [Bool.or_eq_true, decide_eq_true_eq, decide_eq_true_eq] at h
      rcases h with h | h
      · exact .inl h
      · refine Nat.lt_or_ge (a % M256 + b % M256) M256 |>.elim (fun c => .inr ?_) .inl
        refine Nat.le_of_not_lt fun c' => ?_
        have : x4 = -1 := by
          simp only [x4, x3]
          unfold cmpN
          rw [if_pos (by rw [hab, Nat.mod_eq_of_lt c]; exact c')]
        omega
    have := sum_over ha hb hm hor
    simp only [x5, x6, x7, x1, x3, hab]
    exact this
  · rw [Bool.or_eq_false_iff, decide_eq_false_iff_not, decide_eq_false_iff_not] at h
    have h1 : a % M256 + b % M256 < M256 := Nat.lt_of_not_le h.1
    have h2 : a % M256 + b % M256 < m % M256 := by
      refine Nat.lt_of_not_le fun c => h.2 ?_
      simp only [x4, x3]
      unfold cmpN
      rw [if_neg (by rw [hab, Nat.mod_eq_of_lt h1]; omega)]
      split <;> decide
    simp only [x5, x7, x1, x3, x6, hab]
    rw [Nat.mod_eq_of_lt h2]
theorem card_sum : FnOK Try.prog 53 (specUUU prodC sumG) :=
  FnOK_UUU (CxOK_cons card_Add (CxOK_cons card_Cmp (CxOK_cons card_Sub CxOK_nil))) (iv := fun _ _ _ => []) (N := 100) Try.func53 (by kernel_rfl) (by kernel_rfl) (fun _ _ _ => bnd_one (bnd_U _)) ok_sum
theorem ok_difference : ∀ a b m : Nat, Ok (prodC a b m) → Owes Try.prog cxSum [] 100 Try.f55 [sU a, sU b, sU m] (diffG a b m) := by
  intro a b m hc
  obtain ⟨ha, hb, _⟩ := hc
  rw [vc_difference]
  have hM : 0 < M256 := by rw [M256_eq]; decide
  have hm := Nat.mod_lt m hM
  intro x1 x2 x3 x4 x5
  have E1 : x1 = a % M256 := rfl
  have E2 : x2 = b % M256 := rfl
  have E4 : x4 = m % M256 := rfl
  have E3 : x3 = x1 + M256 - x2 := rfl
  have E5 : x5 = (x1 + x4 - x2) % x4 % M256 := rfl
  clear_value x5 x3 x4 x2 x1
  rw [← E1, ← E4] at ha
  rw [← E2, ← E4] at hb
  rw [← E4] at hm
  refine ⟨fun h => ⟨?_, trivial⟩, fun h => ⟨?_, trivial⟩⟩
  · have h := of_decide_eq_true h
    rw [E5, Nat.mod_eq_of_lt (show x1 + x4 - x2 < x4 by omega), Nat.add_mod, ← E4, E3]
    rw [Nat.mod_eq_of_lt (show x1 + M256 - x2 < M256 by omega), show x1 + M256 - x2 + x4 = (x1 + x4 - x2) + M256 by omega, Nat.add_mod_right]
  · have h := of_decide_eq_false h
    rw [E5, E3, show x1 + M256 - x2 = (x1 - x2) + M256 by omega, Nat.add_mod_right, show x1 + x4 - x2 = (x1 - x2) + x4 by omega, Nat.add_mod_right, Nat.mod_eq_of_lt (show x1 - x2 < x4 by omega)]
theorem card_difference : FnOK Try.prog 55 (specUUU prodC diffG) :=
  FnOK_UUU (CxOK_cons card_Add (CxOK_cons card_Cmp (CxOK_cons card_Sub CxOK_nil))) (iv := fun _ _ _ => []) (N := 100) Try.func55 (by kernel_rfl) (by kernel_rfl) (fun _ _ _ => bnd_one (bnd_U _)) ok_difference

/-! ## rest of a product, its parts given -/
theorem ok_rest : ∀ a b m : Nat, Ok (restC a b m) → Owes Try.prog cxRest [] 100 Try.f67 [sU a, sU b, sU m] (restG a b m) := by
  intro a b m hc
  obtain ⟨ha, hb, ht, _⟩ := hc
  rw [vc_rest]
  have hM : 0 < M256 := by rw [M256_eq]; decide
  have hm := Nat.mod_lt m hM
  have hmp : 0 < m % M256 := by omega
  obtain ⟨c0, h0, l0⟩ := limb_is (a * b) 0
  obtain ⟨c1, h1, l1⟩ := limb_is (a * b) 1
  obtain ⟨c2, h2, l2⟩ := limb_is (a * b) 2
  obtain ⟨c3, h3, l3⟩ := limb_is (a * b) 3
  have hH := horner_is (a * b) c0 c1 c2 c3 h0 h1 h2 h3
  have hP : a % M256 * (b % M256) / M256 < m % M256 := by
    rw [Nat.div_lt_iff_lt_mul hM]
    exact Nat.mul_lt_mul'' ha (Nat.lt_trans hb hm)
  have hN : a % M256 * (b % M256) = (((a % M256 * (b % M256) / M256 * 18446744073709551616 + c3) * 18446744073709551616 + c2) * 18446744073709551616 + c1) * 18446744073709551616 + c0 := by
    refine horner_top ?_
    rw [← hH, Nat.mul_mod a b]
    exact Nat.div_add_mod _ _
  obtain ⟨_, d2⟩ := long_div 18446744073709551616 c0 c1 c2 (a % M256 * (b % M256) / M256 * 18446744073709551616 + c3) (m % M256) hmp
  rw [← hN] at d2
  have hdig : ∀ r c : Nat, r < m % M256 → digR r (c : Int) = r * 18446744073709551616 + c := fun r c h => by
    unfold digR
    rw [Int.toNat_natCast, Nat.mod_eq_of_lt (Nat.lt_trans h hm)]
  rw [h0, h1, h2, h3]
  intro x1 x2 x3 x4 x5 x6 x7 x8 x9 x10
  have E3 : x3 = a % M256 * (b % M256) / M256 := rfl
  have E6 : x6 = (x3 * 18446744073709551616 + c3) % (m % M256) := congrArg (· % (m % M256)) (hdig _ _ hP)
  have lt6 := Nat.mod_lt (x3 * 18446744073709551616 + c3) hmp
  rw [← E6] at lt6
  have E8 : x8 = (x6 * 18446744073709551616 + c2) % (m % M256) := congrArg (· % (m % M256)) (hdig _ _ lt6)
  have lt8 := Nat.mod_lt (x6 * 18446744073709551616 + c2) hmp
  rw [← E8] at lt8
  have E10 : x10 = (x8 * 18446744073709551616 + c1) % (m % M256) := congrArg (· % (m % M256)) (hdig _ _ lt8)
  have lt10 := Nat.mod_lt (x8 * 18446744073709551616 + c1) hmp
  rw [← E10] at lt10
  have w : ∀ v : Nat, v < m % M256 → v % M256 < m % M256 := fun v hv => by rw [Nat.mod_eq_of_lt (Nat.lt_trans hv hm)]; exact hv
  refine ⟨word_nat l3, w _ hP, ht, word_nat l2, w _ lt6, ht, word_nat l1, w _ lt8, ht, word_nat l0, w _ lt10, ht, ?_, trivial⟩
  show digR x10 (c0 : Int) % (m % M256) % M256 = a % M256 * (b % M256) % (m % M256) % M256
  rw [hdig _ _ lt10, d2, E10, E8, E6, E3]
end Go.Proofs.Ytbkdokofapbagaa
